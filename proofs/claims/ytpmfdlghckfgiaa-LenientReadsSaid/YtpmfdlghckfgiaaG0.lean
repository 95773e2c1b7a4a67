/- Plain mathematics of layers 1 and 2: no program is named here. · Words for memory: a slice that reads as a list. · A byte's row in the table of types. · A call that writes into one block of what was there, and makes new memory. · A row that grows by append, with the older views of it: what is kept. · append onto a row of elements of any size: the row lies where it lay, or in new memory. · A region that draws its order, by an invariant over what has come up. No program is named here. · varint.Get and the document's Get. · varint.All and the document's All. · varint.sevens: the iterator's contract. · varint.Put: a range over a function. · Numbers of four and eight bytes: the document's Fix and Unfix, the program's number, Get32, Get64. · The document's Put (layer 1) and Fix (layer 2): rows that grow by append. · tag.lowest, tag.fixed, Fix32, Fix64: a range over a function. · The document's comparisons of lists: Same (bytes), Nums (numbers). · The functions of layers 1 and 2 that only compute with numbers, and the document's. · tag.Make, Split, Width, and the document's. · Loops within which ranges over functions begin, and the marks that these leave. · A range over a function, at the wide fence: the records are laid, kept and shut here. · A region that draws its order, by an invariant over what has come up: only edges that bind are asked of. No program is named here. · Opening the arguments of a statement: what came in, as lists. · What came in, whatever its type: cells that read as data are the cells of some value of a Lean type. · varint.Short, tag.Head, and what is awake in layers 1 and 2. · The walks of layer 1's statements. · The walks of VarintBack and VarintAll. · The walk of VarintBack. · The walk of VarintAll. · The walks of layer 2's statements. · The walks of TagBack and TagFixed. · The walk of WholeHeads. · A region that draws its order, within a fence, by an invariant over what has come up. No program is named here. · The table of all fields: plain mathematics. · schema.rows: all fields, one by one. · schema.known: the fields that a version has, one by one. · schema.Of: a kind's fields in a version. · schema.Kinds: the kinds that a version has. · schema.Find: a field of a kind by its number. · The table of all fields, by kinds and versions: plain mathematics. -/
import Derived.WalkKit
import Derived.WalkSpells
import Derived.WalkLawsBesides
import Derived.Laws.AppendOwnNone
import Derived.Test.YtpmfdlghckfgiaaProg
import Derived.Laws.OwnMore
import Derived.Orders
import Derived.Tactics
import Derived.Deep.LoopGhost
import Derived.Maps.AppendAt
import Derived.RangeFuncNested
import Derived.RangeFuncBound
import Derived.RangeFuncCalls
import Derived.RangeFuncLeaves
import Derived.RangeFuncBox
import Derived.Shelf.Abstract
import Derived.Shelf.RegionOpen
import Derived.OwnWalkIn
import Derived.TacticsInMore
import Derived.LoopNIn
import Derived.LoopIn
import Derived.Deep.QuietTactic
import Derived.BigQuiet
import Derived.Lib.Strings
import Derived.Lib.Slices
import Derived.Lib.Small
import Derived.Lib.Walk
import Derived.Lib.BitFns
import Derived.RangeFuncOwn
import Derived.ProofKit
import Derived.OpenShut
import Derived.ChangeOld
import Derived.Below
import Derived.Deep.RegionWith
import Derived.Deep.RegionHeld3
import Derived.OrdersIn
import Derived.TacticsIn
import Derived.Sort.QuietIn
set_option linter.unusedVariables false
namespace Go.Proofs.Ytpmfdlghckfgiaa.M

/-- Get of bytes, i of which were read before, acc their number: number, size, error. -/
def getF (i acc : Nat) : List UInt8 → Nat × Nat × Nat
  | [] => (0, 0, 4)
  | x :: r =>
    if i = 9 then
      if 128 ≤ x.toNat then (0, 0, 2) else if 1 < x.toNat then (0, 0, 1) else (acc + x.toNat * 128 ^ 9, 10, 0)
    else if x.toNat < 128 then (acc + x.toNat * 128 ^ i, i + 1, 0) else getF (i + 1) (acc + (x.toNat - 128) * 128 ^ i) r
def get (b : List UInt8) : Nat × Nat × Nat := getF 0 0 b

theorem pow7 (k : Nat) : (128 : Nat) ^ k = 2 ^ (7 * k) := by rw [Nat.pow_mul]
theorem get_num {k acc y : Nat} (hk : k ≤ 9) (ha : acc < 128 ^ k) (hy : y < 128) (h9 : k = 9 → y ≤ 1) :
    acc + y * 128 ^ k ≤ 18446744073709551615 := by
  by_cases h : k = 9
  · subst h
    have := h9 rfl
    have h1 : y * 128 ^ 9 ≤ 1 * 128 ^ 9 := Nat.mul_le_mul_right _ this
    omega
  · have h8 : (128 : Nat) ^ k ≤ 128 ^ 8 := Nat.pow_le_pow_right (by omega) (by omega)
    have h1 : y * 128 ^ k ≤ 127 * 128 ^ 8 := Nat.mul_le_mul (by omega) h8
    omega
theorem get_wrap {k acc y : Nat} (hk : k ≤ 9) (ha : acc < 128 ^ k) (hy : y < 128) (h9 : k = 9 → y ≤ 1) :
    IntKind.u64.wrap ((acc : Int) + IntKind.u64.wrap ((y : Int) * 2 ^ (7 * k))) = ((acc + y * 128 ^ k : Nat) : Int) := by
  have h := get_num hk ha hy h9
  have e : (y : Int) * 2 ^ (7 * k) = ((y * 128 ^ k : Nat) : Int) := by rw [pow7]; simp
  rw [e]
  generalize y * 128 ^ k = z at *
  rw [IntWalk.u64_in (z : Int) (by omega), IntWalk.u64_in _ (by omega)]
  omega
theorem get_wrap9 {acc y : Nat} (ha : acc < 128 ^ 9) (hy : y ≤ 1) :
    IntKind.u64.wrap ((acc : Int) + (y : Int) * 9223372036854775808) = ((acc + y * 128 ^ 9 : Nat) : Int) := by
  rw [IntWalk.u64_in _ (by omega)]
  omega
theorem rget_wrap9 {acc y : Nat} (ha : acc < 128 ^ 9) (hy : y ≤ 1) :
    IntKind.u64.wrap ((acc : Int) + (y : Int) % 128 * 9223372036854775808) = ((acc + y * 128 ^ 9 : Nat) : Int) := by
  rw [show (y : Int) % 128 = y from by omega]
  exact get_wrap9 ha hy
theorem rget_wrap {k acc y : Nat} (hk : k < 9) (ha : acc < 128 ^ k) (hy : y < 256) :
    IntKind.u64.wrap ((acc : Int) + IntKind.u64.wrap ((y : Int) % 128 * ((128 ^ k : Nat) : Int))) = ((acc + y % 128 * 128 ^ k : Nat) : Int) := by
  have h := get_wrap (y := y % 128) (Nat.le_of_lt hk) ha (by omega) (by omega)
  rw [← h, pow7]
  simp
theorem get_wrap' {k acc y : Nat} (hk : k < 9) (ha : acc < 128 ^ k) (hy : 128 ≤ y) (hy2 : y < 256) :
    IntKind.u64.wrap ((acc : Int) + IntKind.u64.wrap (((y : Int) - 128) * 2 ^ (7 * k))) = ((acc + (y - 128) * 128 ^ k : Nat) : Int) := by
  have h := get_wrap (y := y - 128) (Nat.le_of_lt hk) ha (by omega) (by omega)
  rw [← h, show (y : Int) - 128 = ((y - 128 : Nat) : Int) from by omega]
theorem get_acc {k acc y : Nat} (ha : acc < 128 ^ k) (hy : y < 256) : acc + (y - 128) * 128 ^ k < 128 ^ (k + 1) := by
  rw [Nat.pow_succ]
  have h1 : (y - 128) * 128 ^ k ≤ 127 * 128 ^ k := Nat.mul_le_mul_right _ (by omega)
  omega
theorem getF_at {bs : List UInt8} {k acc : Nat} (h : k < bs.length) : getF k acc (bs.drop k) =
    if k = 9 then
      if 128 ≤ bs[k].toNat then (0, 0, 2) else if 1 < bs[k].toNat then (0, 0, 1) else (acc + bs[k].toNat * 128 ^ 9, 10, 0)
    else if bs[k].toNat < 128 then (acc + bs[k].toNat * 128 ^ k, k + 1, 0) else getF (k + 1) (acc + (bs[k].toNat - 128) * 128 ^ k) (bs.drop (k + 1)) := by
  rw [List.drop_eq_getElem_cons h, getF]
theorem getF_end {bs : List UInt8} {k acc : Nat} (h : bs.length ≤ k) : getF k acc (bs.drop k) = (0, 0, 4) := by
  rw [List.drop_eq_nil_of_le h, getF]

theorem getF_facts : ∀ (b : List UInt8) (i acc : Nat), i ≤ 9 → acc < 128 ^ i →
    ((getF i acc b).2.2 = 0 → i + 1 ≤ (getF i acc b).2.1 ∧ (getF i acc b).2.1 ≤ 10 ∧ (getF i acc b).2.1 ≤ i + b.length ∧ (getF i acc b).1 ≤ 18446744073709551615) ∧
    ((getF i acc b).2.2 ≠ 0 → (getF i acc b).1 = 0 ∧ (getF i acc b).2.1 = 0 ∧ (getF i acc b).2.2 ≤ 4)
  | [], i, acc, _, _ => by simp [getF]
  | x :: r, i, acc, hi, ha => by
    have hx := x.toNat_lt
    rw [getF]
    split
    · rename_i h9; subst h9
      split
      · simp
      · split
        · simp
        · simp; omega
    · split
      · rename_i h; have := get_num (by omega) ha h (by omega)
        simp; omega
      · have := getF_facts r (i + 1) (acc + (x.toNat - 128) * 128 ^ i) (by omega) (get_acc ha (by omega))
        simp only [List.length_cons]
        refine ⟨fun h => ?_, this.2⟩
        have := this.1 h
        omega
theorem get_facts (b : List UInt8) :
    ((get b).2.2 = 0 → 1 ≤ (get b).2.1 ∧ (get b).2.1 ≤ 10 ∧ (get b).2.1 ≤ b.length ∧ (get b).1 ≤ 18446744073709551615) ∧
    ((get b).2.2 ≠ 0 → (get b).1 = 0 ∧ (get b).2.1 = 0 ∧ (get b).2.2 ≤ 4) := by
  have := getF_facts b 0 0 (by omega) (by simp)
  simpa [get] using this

/-- All of bytes, so many numbers read before, at a place: numbers, error, place. -/
def allF : Nat → List Nat → Nat → List UInt8 → List Nat × Nat × Nat
  | _, acc, _, [] => (acc, 0, 0)
  | 0, acc, _, _ => (acc, 0, 0)
  | f + 1, acc, p, x :: r =>
    if (get (x :: r)).2.2 ≠ 0 then ([], (get (x :: r)).2.2, p) else allF f (acc ++ [(get (x :: r)).1]) (p + (get (x :: r)).2.1) ((x :: r).drop (get (x :: r)).2.1)
def all (b : List UInt8) : List Nat × Nat × Nat := allF b.length [] 0 b
end Go.Proofs.Ytpmfdlghckfgiaa.M
set_option linter.unusedVariables false
namespace Go.Proofs.Ytpmfdlghckfgiaa
open Go.RowKit

theorem hid {p : Prop} (h : p) : Hid p := h
/-- The slice at A reads, in w, as the cells xs. -/
def Rd (w : World) (A : Option Addr) (xs : List Value) : Prop :=
  ∀ k u, xs[k]? = some u → ∃ b off, A = some ⟨b, off, none⟩ ∧ b < w.heap.size ∧ w.cell? ⟨b, off + k, none⟩ = some u
/-- A byte of a number (a name that simp leaves alone). -/
def b8 (n : Nat) : UInt8 := UInt8.ofNat n
theorem b8_toNat {n : Nat} (h : n < 256) : (b8 n).toNat = n := by unfold b8; rw [UInt8.toNat_ofNat']; omega
theorem b8_self (x : UInt8) : b8 x.toNat = x := by unfold b8; exact UInt8.ofNat_toNat
def bv (x : UInt8) : Value := .int .u8 (x.toNat : Int)
theorem bv_b8 (n : Nat) (h : n < 256) : bv (b8 n) = .int .u8 (n : Int) := by simp only [bv, b8_toNat h]
def BRd (w : World) (A : Option Addr) (bs : List UInt8) : Prop := Rd w A (bs.map bv)

theorem Rd.below {w w' : World} {A : Option Addr} {xs : List Value} (h : Rd w A xs) (hb : Below w.heap.size w w') : Rd w' A xs := by
  intro k u hk
  obtain ⟨b, off, rfl, hlt, hc⟩ := h k u hk
  exact ⟨b, off, rfl, Nat.lt_of_lt_of_le hlt hb.size, (hb.cell (p := ⟨b, off + k, none⟩) hlt).trans hc⟩

theorem BRd.at_ {w : World} {A : Option Addr} {bs : List UInt8} (h : BRd w A bs) {k : Nat} (hk : k < bs.length) :
    ∃ b off, A = some ⟨b, off, none⟩ ∧ b < w.heap.size ∧ w.cell? ⟨b, off + k, none⟩ = some (.int .u8 (bs[k].toNat : Int)) :=
  h k (bv bs[k]) (by simp [hk])

def nv (n : Nat) : Value := .int .u64 (n : Int)
def NRd (w : World) (A : Option Addr) (ns : List Nat) : Prop := Rd w A (ns.map nv)
theorem NRd.at_ {w : World} {A : Option Addr} {ns : List Nat} (h : NRd w A ns) {k : Nat} (hk : k < ns.length) :
    ∃ b off, A = some ⟨b, off, none⟩ ∧ b < w.heap.size ∧ w.cell? ⟨b, off + k, none⟩ = some (.int .u64 (ns[k] : Int)) :=
  h k (nv ns[k]) (by simp [hk])
theorem Rd.drewN {w : World} {A : Option Addr} {xs : List Value} (h : Rd w A xs) (n : Nat) : Rd (w.drewN n) A xs := h

/-- A slice with its capacity: what the walk wants of one. -/
structure Sl (w : World) (A : Option Addr) (c : Nat) (xs : List Value) : Prop where
  cap : xs.length ≤ c
  small : c ≤ 9223372036854775807
  nil0 : A = none → c = 0
  rd : Rd w A xs
theorem Sl.below {w w' : World} {A : Option Addr} {c : Nat} {xs : List Value} (h : Sl w A c xs) (hb : Below w.heap.size w w') : Sl w' A c xs := ⟨h.cap, h.small, h.nil0, h.rd.below hb⟩
theorem Sl.nil_ (w : World) : Sl w none 0 [] := ⟨by simp, by omega, fun _ => rfl, fun k u h => by simp at h⟩
theorem Sl.drewN {w : World} {A : Option Addr} {c : Nat} {xs : List Value} (h : Sl w A c xs) (n : Nat) : Sl (w.drewN n) A c xs := ⟨h.cap, h.small, h.nil0, h.rd⟩
/-- A row of the call's own is such a slice. -/
theorem Sl.of_own {w : World} {base e : Nat} {v : Value} {n : Nat} {xs : List Value} (h : w.ownsRow base e 1 v n xs) : ∃ A c, v = .slice A n c ∧ n = xs.length ∧ Sl w A c xs := by
  have hn : xs.length = n := by simpa using h.1
  rcases h.2 with ⟨rfl, rfl⟩ | ⟨g, cap, cur, rfl, hb, hg, hnc, hcm, hcs, htake⟩
  · obtain rfl : xs = [] := List.eq_nil_of_length_eq_zero hn
    exact ⟨none, 0, rfl, rfl, Sl.nil_ w⟩
  · refine ⟨_, cap, rfl, hn.symm, ⟨by omega, hcm, (fun h => by cases h), fun k u hk => ⟨g, 0, rfl, (Array.getElem?_eq_some_iff.1 hg).1, ?_⟩⟩⟩
    have := h.cells (g := g) rfl k u hk
    have hadd : (⟨g, 0, none⟩ : Addr).add k = ⟨g, 0 + k, none⟩ := by unfold Addr.add; split <;> simp_all
    rwa [hadd] at this
/-- A block of cells that is known whole. -/
def Blk (w : World) (g : Nat) (t : TypeId) (cs : Array Value) : Prop := w.heap[g]? = some (.cells cs t (0, 0))
section
variable {w w' : World} {g : Nat} {t : TypeId} {cs : Array Value}
theorem Blk.lt (h : Blk w g t cs) : g < w.heap.size := (Array.getElem?_eq_some_iff.1 h).1
theorem Blk.cell (h : Blk w g t cs) (i : Nat) : w.cell? ⟨g, i, none⟩ = cs[i]? := by unfold Blk at h; simp [World.cell?, h]
theorem Blk.frozen (h : Blk w g t cs) (i : Nat) : w.frozen? ⟨g, i, none⟩ = false := by unfold Blk at h; simp [World.frozen?, h]
theorem Blk.new (w : World) (t : TypeId) (cs : Array Value) : Blk (w.alloc (.cells cs t)) w.heap.size t cs := heap_alloc_new w _
theorem Blk.alloc (h : Blk w g t cs) (o : Obj) : Blk (w.alloc o) g t cs := (Below.heap_alloc w o g h.lt).trans h
theorem Blk.below {B : Nat} (h : Blk w g t cs) (hb : Below B w w') (hg : g < B) : Blk w' g t cs := (hb.block g hg).trans h
theorem Blk.set_ (h : Blk w g t cs) (i : Nat) (u : Value) : Blk (w.setCell ⟨g, i, none⟩ u) g t (cs.setIfInBounds i u) := by
  unfold Blk at h ⊢; simp [World.setCell, Array.getElem?_modify, h]
theorem Blk.far (h : Blk w g t cs) {p : Addr} (hp : g ≠ p.block) (u : Value) : Blk (w.setCell p u) g t cs := (Below.heap_setCell w p u g hp).trans h
end
theorem addr_add (b off k : Nat) : (⟨b, off, none⟩ : Addr).add k = ⟨b, off + k, none⟩ := by unfold Addr.add; split <;> simp_all
theorem Rd.addr {w : World} {a : Addr} {xs : List Value} (h : Rd w (some a) xs) : ∀ j u, xs[j]? = some u → w.cell? (a.add j) = some u := by
  intro j u hj
  obtain ⟨b, off, he, _, hc⟩ := h j u hj
  injection he with he
  rw [he, addr_add]; exact hc
theorem Rd.none_nil {w : World} {xs : List Value} (h : Rd w none xs) : xs = [] := by
  cases xs with
  | nil => rfl
  | cons x r => obtain ⟨b, off, he, _⟩ := h 0 x rfl; cases he
theorem Rd.nil_ (w : World) (A : Option Addr) : Rd w A [] := fun k u h => by simp at h
theorem Rd.drop {w : World} {b off : Nat} {xs : List Value} (h : Rd w (some ⟨b, off, none⟩) xs) (k : Nat) : Rd w (some ⟨b, off + k, none⟩) (xs.drop k) := by
  intro j u hj
  rw [List.getElem?_drop] at hj
  obtain ⟨b', off', he, hlt, hc⟩ := h (k + j) u hj
  injection he with he; injection he with h1 h2; subst h1; subst h2
  exact ⟨b, off + k, rfl, hlt, by rw [Nat.add_assoc]; exact hc⟩
theorem Rd.take {w : World} {A : Option Addr} {xs : List Value} (h : Rd w A xs) (k : Nat) : Rd w A (xs.take k) := by
  intro j u hj
  rw [List.getElem?_take] at hj
  split at hj
  · exact h j u hj
  · cases hj
/-- append onto a row of the call's own, whatever slice the source is -/
theorem wpList_append_rd {P : Program} {w : World} {ops : Array Oper} {rest : List Oper} {o : Oper} {a : Act} {Q : Exit → Act → World → Prop} (hgd : o.guard = none) (s x : Operand) (t : TypeId)
    (ho : o.op = .call { callee := .builtin .append, args := #[s, x], argTypes := #[t, t] })
    (base : Nat) (e : TypeId) (i : TypeInfo) (z : Value) (size bytes : Nat) (ht : P.underlying t = some (.slice e)) (hi : P.info? e = some i) (hz : i.zero = some z)
    (hsize : i.size = size) (hby : i.bytes = bytes) (hzs : z.cells.size = size) (hsz : 0 < size)
    (v : Value) (n : Nat) (xs : List Value) (hs : a.eval s = v) (hown : w.ownsRow base e size v n xs)
    (A : Option Addr) (m c : Nat) (news : List Value) (hx : a.eval x = .slice A m c) (hl : news.length = m * size) (hr : Rd w A news) (hn : A = none → c = 0) (h1 : ∀ u ∈ news, u.oneCell' = true)
    (h63 : n + m ≤ maxLen) (hbytes : (n + m) * bytes ≤ 140737488355328) (hbase : base ≤ w.heap.size)
    (h : ∀ v' w', w'.ownsRow base e size v' (n + m) (xs ++ news) → w.grownBy w' v.ownBlock → wpList P ops Q rest (a.put o.dst v') w') : wpList P ops Q (o :: rest) a w := by
  cases A with
  | none =>
    obtain rfl := hr.none_nil
    obtain rfl := hn rfl
    have hm : m = 0 := by
      have h0 : m * size = 0 := by simpa using hl.symm
      rcases Nat.mul_eq_zero.1 h0 with q | q <;> omega
    subst hm
    exact wpList_append_own_none hgd s x t ho base e i size ht hi v n xs hs hown hx (h v w (by simpa using hown) ⟨rfl, rfl, rfl, Nat.le_refl _, fun _ _ _ => rfl⟩)
  | some ad => exact wpList_append_own w hgd s x t ho base e i z size bytes ht hi hz hsize hby hzs hsz v n xs hs hown ad m c news hx hl hr.addr h1 h63 hbytes hbase fun v' w' h2 h3 _ => h v' w' h2 h3
theorem bw_t {a b c : World} (h : Below a.heap.size a b) (k : Below b.heap.size b c) : Below a.heap.size a c := h.trans (k.mono h.size)
theorem bw_d {a b : World} (h : Below a.heap.size a b) (n : Nat) : Below a.heap.size a (b.drewN n) := ⟨h.os, h.tape, h.output, h.size, h.block⟩
theorem bw_a {a b : World} (h : Below a.heap.size a b) (o : Obj) : Below a.heap.size a (b.alloc o) := h.alloc h.size o
theorem bw_g {a b c : World} {row : Option Nat} (h : Below a.heap.size a b) (hg : b.grownBy c row) (hr : ∀ k, row = some k → a.heap.size ≤ k) : Below a.heap.size a c := h.grown hg h.size hr
theorem bv_one (bs : List UInt8) : ∀ u ∈ bs.map bv, u.oneCell' = true := by
  intro u hu; obtain ⟨b, _, rfl⟩ := List.mem_map.1 hu; simp [bv, Value.oneCell']
theorem Rd.of_blk {w : World} {g : Nat} {t : TypeId} {cs : Array Value} (h : Blk w g t cs) : Rd w (some ⟨g, 0, none⟩) cs.toList := by
  intro k u hk
  exact ⟨g, 0, rfl, h.lt, by rw [h.cell]; simpa using hk⟩
theorem Rd.new (w : World) (t : TypeId) (cs : Array Value) : Rd (w.alloc (.cells cs t)) (some ⟨w.heap.size, 0, none⟩) cs.toList := Rd.of_blk (Blk.new w t cs)
theorem own_mono {w : World} {base base' e size n : Nat} {v : Value} {xs : List Value} (h : w.ownsRow base e size v n xs) (hb : base' ≤ base) : w.ownsRow base' e size v n xs := by
  refine ⟨h.1, h.2.imp_right ?_⟩
  rintro ⟨g, cap, cur, hv, hg, r⟩
  exact ⟨g, cap, cur, hv, Nat.le_trans hb hg, r⟩
theorem own_below {w w' : World} {base e size n : Nat} {v : Value} {xs : List Value} (h : w.ownsRow base e size v n xs) (hb : Below w.heap.size w w') : w'.ownsRow base e size v n xs :=
  h.kept (row := none) ⟨hb.os, hb.tape, hb.output, hb.size, fun k hk _ => hb.block k hk⟩ (by cases hv : v.ownBlock <;> simp)
theorem own_two {w : World} {b1 e1 s1 n1 b2 e2 s2 n2 : Nat} {v1 v2 : Value} {xs1 xs2 : List Value} (h1 : w.ownsRow b1 e1 s1 v1 n1 xs1) (h2 : w.ownsRow b2 e2 s2 v2 n2 xs2) (hne : e1 ≠ e2) :
    v1.ownBlock = none ∨ v1.ownBlock ≠ v2.ownBlock := by
  rcases h1.2 with ⟨rfl, _⟩ | ⟨g1, c1, cur1, rfl, _, hg1, _⟩
  · exact .inl rfl
  rcases h2.2 with ⟨rfl, _⟩ | ⟨g2, c2, cur2, rfl, _, hg2, _⟩
  · exact .inr (by simp [Value.ownBlock])
  · refine .inr fun he => ?_
    have hg : g1 = g2 := by simpa [Value.ownBlock] using he
    subst hg
    rw [hg1] at hg2
    injection hg2 with hg2
    injection hg2 with _ ht
    exact hne ht
theorem eq_of_take {α : Type} {xs ys : List α} {k : Nat} (hl : xs.length = ys.length) (hk : xs.length ≤ k) (h : xs.take k = ys.take k) : xs = ys := by
  rwa [List.take_of_length_le hk, List.take_of_length_le (by omega)] at h
theorem ne_of_get {α : Type} {xs ys : List α} {k : Nat} (h1 : k < xs.length) (h2 : k < ys.length) (h : xs[k] ≠ ys[k]) : xs ≠ ys := by
  rintro rfl; exact h rfl
theorem ret_bool {a b : Bool} (h : a = b) : Ending.returned (.bool a) = .returned (.bool b) := by rw [h]
theorem ret_int {k : IntKind} {a b : Int} (h : a = b) : Ending.returned (.int k a) = .returned (.int k b) := by rw [h]
end Go.Proofs.Ytpmfdlghckfgiaa
set_option linter.unusedVariables false
namespace Go.Proofs.Ytpmfdlghckfgiaa
theorem Try.info5 : (Try.prog.info? 5).map (fun i => (i.zero, i.size, i.bytes)) = some (some (.int .u8 0), 1, 1) := by kernel_rfl
end Go.Proofs.Ytpmfdlghckfgiaa
set_option linter.unusedVariables false
namespace Go.Proofs.Ytpmfdlghckfgiaa
open Go.RowKit
/-- Of what w had, w' has all but block q as it was. -/
structure Only (q : Nat) (w w' : World) : Prop where
  os : w'.os = w.os
  tape : w'.tape = w.tape
  output : w'.output = w.output
  size : w.heap.size ≤ w'.heap.size
  block : ∀ k, k < w.heap.size → k ≠ q → w'.heap[k]? = w.heap[k]?
section
variable {q : Nat} {w w' w'' : World}
theorem Only.refl (q : Nat) (w : World) : Only q w w := ⟨rfl, rfl, rfl, Nat.le_refl _, fun _ _ _ => rfl⟩
theorem Only.trans (h : Only q w w') (k : Only q w' w'') : Only q w w'' :=
  ⟨k.os.trans h.os, k.tape.trans h.tape, k.output.trans h.output, Nat.le_trans h.size k.size, fun i hi hq => (k.block i (Nat.lt_of_lt_of_le hi h.size) hq).trans (h.block i hi hq)⟩
theorem Only.of_below (h : Below w.heap.size w w') : Only q w w' := ⟨h.os, h.tape, h.output, h.size, fun k hk _ => h.block k hk⟩
theorem Only.alloc (h : Only q w w') (o : Obj) : Only q w (w'.alloc o) := h.trans (.of_below ((Below.refl _ _).alloc (Nat.le_refl _) _))
theorem Only.drewN (h : Only q w w') (n : Nat) : Only q w (w'.drewN n) := ⟨h.os, h.tape, h.output, h.size, h.block⟩
theorem Only.set_ (h : Only q w w') (i : Nat) (u : Value) : Only q w (w'.setCell ⟨q, i, none⟩ u) := by
  refine ⟨h.os, h.tape, h.output, by simpa [World.setCell] using h.size, fun k hk hq => ?_⟩
  rw [Below.heap_setCell w' ⟨q, i, none⟩ u k hq]
  exact h.block k hk hq
theorem Only.new_ (h : Only q w w') {g : Nat} (hg : w.heap.size ≤ g) (i : Nat) (u : Value) : Only q w (w'.setCell ⟨g, i, none⟩ u) := by
  refine ⟨h.os, h.tape, h.output, by simpa [World.setCell] using h.size, fun k hk hq => ?_⟩
  rw [Below.heap_setCell w' ⟨g, i, none⟩ u k (by show k ≠ g; omega)]
  exact h.block k hk hq
theorem Only.grown (h : Only q w w') {row : Option Nat} (hg : w'.grownBy w'' row) (hr : ∀ k, row = some k → w.heap.size ≤ k) : Only q w w'' := by
  refine ⟨hg.os.trans h.os, hg.tape.trans h.tape, hg.output.trans h.output, Nat.le_trans h.size hg.size, fun k hk hq => ?_⟩
  rw [hg.block k (Nat.lt_of_lt_of_le hk h.size) (fun e => by have := hr k e.symm; omega)]
  exact h.block k hk hq
theorem Only.below {B : Nat} (h : Only q w w') (hq : B ≤ q) (hB : B ≤ w.heap.size) : Below B w w' :=
  ⟨h.os, h.tape, h.output, h.size, fun k hk => h.block k (by omega) (by omega)⟩
theorem Only.blk {g : Nat} {t : TypeId} {cs : Array Value} (h : Only q w w') (hb : Blk w g t cs) (hg : g ≠ q) : Blk w' g t cs := (h.block g hb.lt hg).trans hb
/-- What is read there lies in another block. -/
def Far (A : Option Addr) (n q : Nat) : Prop := 0 < n → ∀ b off, A = some ⟨b, off, none⟩ → b ≠ q
theorem Only.rd {A : Option Addr} {xs : List Value} {n : Nat} (h : Only q w w') (hr : Rd w A xs) (hf : Far A n q) (hn : xs.length = n) : Rd w' A xs := by
  intro k u hk
  have hpos : 0 < n := by have := (List.getElem?_eq_some_iff.1 hk).1; omega
  obtain ⟨b, off, rfl, hlt, hc⟩ := hr k u hk
  refine ⟨b, off, rfl, Nat.lt_of_lt_of_le hlt h.size, ?_⟩
  rw [← hc]
  exact World.cell?_of_block (h.block b hlt (hf hpos b off rfl))
theorem Only.sl {A : Option Addr} {c n : Nat} {xs : List Value} (h : Only q w w') (hs : Sl w A c xs) (hf : Far A n q) (hn : xs.length = n) : Sl w' A c xs := ⟨hs.cap, hs.small, hs.nil0, h.rd hs.rd hf hn⟩
end
theorem Only.of_grown {q : Nat} {w w' : World} (h : w.grownBy w' (some q)) : Only q w w' := ⟨h.os, h.tape, h.output, h.size, fun k hk hq => h.block k hk (by simpa using hq)⟩
end Go.Proofs.Ytpmfdlghckfgiaa
set_option linter.unusedVariables false
namespace Go.Proofs.Ytpmfdlghckfgiaa
open Go.RowKit
/-- Of what w had, w' has all but the blocks of S as it was. -/
structure Chg (S : Nat → Prop) (w w' : World) : Prop where
  os : w'.os = w.os
  tape : w'.tape = w.tape
  output : w'.output = w.output
  size : w.heap.size ≤ w'.heap.size
  block : ∀ k, k < w.heap.size → ¬ S k → w'.heap[k]? = w.heap[k]?
section
variable {S T : Nat → Prop} {w w' w'' : World}
theorem Chg.refl (S : Nat → Prop) (w : World) : Chg S w w := ⟨rfl, rfl, rfl, Nat.le_refl _, fun _ _ _ => rfl⟩
theorem Chg.trans (h : Chg S w w') (k : Chg S w' w'') : Chg S w w'' :=
  ⟨k.os.trans h.os, k.tape.trans h.tape, k.output.trans h.output, Nat.le_trans h.size k.size, fun i hi hq => (k.block i (Nat.lt_of_lt_of_le hi h.size) hq).trans (h.block i hi hq)⟩
theorem Chg.mono (h : Chg S w w') (hT : ∀ k, k < w.heap.size → S k → T k) : Chg T w w' := ⟨h.os, h.tape, h.output, h.size, fun k hk hq => h.block k hk fun hs => hq (hT k hk hs)⟩
theorem Chg.of_below {B : Nat} (h : Below B w w') (hS : ∀ k, k < w.heap.size → ¬ S k → k < B) : Chg S w w' := ⟨h.os, h.tape, h.output, h.size, fun k hk hq => h.block k (hS k hk hq)⟩
theorem Chg.of_new (h : Below w.heap.size w w') : Chg S w w' := .of_below h fun k hk _ => hk
theorem Chg.of_only {q : Nat} (h : Only q w w') (hq : S q) : Chg S w w' := ⟨h.os, h.tape, h.output, h.size, fun k hk hn => h.block k hk fun e => hn (e ▸ hq)⟩
theorem Chg.of_grown {row : Option Nat} (h : w.grownBy w' row) (hq : ∀ g, row = some g → S g) : Chg S w w' := ⟨h.os, h.tape, h.output, h.size, fun k hk hn => h.block k hk fun e => hn (hq k e.symm)⟩
theorem Chg.set_ (h : Chg S w w') {g : Nat} (hg : S g ∨ w.heap.size ≤ g) (i : Nat) (u : Value) : Chg S w (w'.setCell ⟨g, i, none⟩ u) := by
  refine ⟨h.os, h.tape, h.output, by simpa [World.setCell] using h.size, fun k hk hq => ?_⟩
  rw [Below.heap_setCell w' ⟨g, i, none⟩ u k (by intro e; simp only at e; subst e; rcases hg with hg | hg; exact hq hg; omega)]
  exact h.block k hk hq
theorem Chg.alloc (h : Chg S w w') (o : Obj) : Chg S w (w'.alloc o) := h.trans (.of_new ((Below.refl _ _).alloc (Nat.le_refl _) _))
theorem Chg.drewN (h : Chg S w w') (n : Nat) : Chg S w (w'.drewN n) := ⟨h.os, h.tape, h.output, h.size, h.block⟩
theorem Chg.drew (h : Chg S w w') : Chg S w w'.drew := ⟨h.os, h.tape, h.output, h.size, h.block⟩
theorem Chg.below {B : Nat} (h : Chg S w w') (hS : ∀ k, S k → B ≤ k) (hB : B ≤ w.heap.size) : Below B w w' := ⟨h.os, h.tape, h.output, h.size, fun k hk => h.block k (by omega) fun hs => by have := hS k hs; omega⟩
theorem Chg.blk {g : Nat} {t : TypeId} {cs : Array Value} (h : Chg S w w') (hb : Blk w g t cs) (hg : ¬ S g) : Blk w' g t cs := (h.block g hb.lt hg).trans hb
/-- What is read there lies in no block of S. -/
def FarS (A : Option Addr) (n : Nat) (S : Nat → Prop) : Prop := 0 < n → ∀ b off, A = some ⟨b, off, none⟩ → ¬ S b
theorem Chg.rd {A : Option Addr} {xs : List Value} {n : Nat} (h : Chg S w w') (hr : Rd w A xs) (hf : FarS A n S) (hn : xs.length = n) : Rd w' A xs := by
  intro k u hk
  have hpos : 0 < n := by have := (List.getElem?_eq_some_iff.1 hk).1; omega
  obtain ⟨b, off, rfl, hlt, hc⟩ := hr k u hk
  refine ⟨b, off, rfl, Nat.lt_of_lt_of_le hlt h.size, ?_⟩
  rw [← hc]
  exact World.cell?_of_block (h.block b hlt (hf hpos b off rfl))
theorem Chg.sl {A : Option Addr} {c n : Nat} {xs : List Value} (h : Chg S w w') (hs : Sl w A c xs) (hf : FarS A n S) (hn : xs.length = n) : Sl w' A c xs := ⟨hs.cap, hs.small, hs.nil0, h.rd hs.rd hf hn⟩
theorem FarS.far {A : Option Addr} {n : Nat} (h : FarS A n S) {q : Nat} (hq : S q) : Far A n q := fun hp b off e hb => h hp b off e (hb ▸ hq)
theorem FarS.imp {A : Option Addr} {n : Nat} (h : FarS A n S) (hT : ∀ k, T k → S k) : FarS A n T := fun hp b off e hb => h hp b off e (hT b hb)
end
/-- Older views of a row of v, and all other rows, stay as they were. -/
def Views (e : TypeId) (v : Value) (n : Nat) (w w' : World) : Prop := ∀ B v0 n0 xs0, w.ownsRow B e 1 v0 n0 xs0 → (v0.ownBlock ≠ none → v0.ownBlock = v.ownBlock → n0 ≤ n) → w'.ownsRow B e 1 v0 n0 xs0
/-- A grown row lies where it lay, or in new memory. -/
def NewOr (w : World) (v v' : Value) : Prop := v'.ownBlock = v.ownBlock ∨ ∀ g, v'.ownBlock = some g → w.heap.size ≤ g
theorem views_kept {e : TypeId} {v : Value} {n : Nat} {w w' : World} (h : Below w.heap.size w w') : Views e v n w w' := fun B v0 n0 xs0 h0 _ => own_below h0 h
end Go.Proofs.Ytpmfdlghckfgiaa
set_option linter.unusedVariables false
namespace Go.Proofs.Ytpmfdlghckfgiaa
open Go.RowKit
theorem run_append_new {P : Program} (w : World) (base : Nat) (t ty e : TypeId) (i : TypeInfo) (z : Value) (size bytes : Nat) (ht : P.underlying t = some (.slice e)) (hi : P.info? e = some i) (hz : i.zero = some z)
    (hsize : i.size = size) (hby : i.bytes = bytes) (hzs : z.cells.size = size) (hsz : 0 < size) (v : Value) (n : Nat) (xs : List Value) (hown : w.ownsRow base e size v n xs)
    (ad : Addr) (m c : Nat) (news : List Value) (hl : news.length = m * size) (hr : Rd w (some ad) news) (h1 : ∀ u ∈ news, u.oneCell' = true)
    (h63 : n + m ≤ maxLen) (hbytes : (n + m) * bytes ≤ 140737488355328) (hbase : base ≤ w.heap.size) :
    ∃ v' w', (Builtin.append_ #[t, t] ty #[v, .slice (some ad) m c]).run P w = .ok v' w' ∧ w'.ownsRow base e size v' (n + m) (xs ++ news) ∧ w.grownBy w' v.ownBlock ∧ NewOr w v v' := by
  obtain ⟨v', w', hrun, h2, h3, h4⟩ := run_append_own (P := P) w base t ty e i z size bytes ht hi hz hsize hby hzs hsz v n xs hown ad m c news hl hr.addr h1 h63 hbytes hbase
  refine ⟨v', w', hrun, h2, h3, ?_⟩
  have h63' : n + m ≤ 9223372036854775807 := by simp only [maxLen] at h63; omega
  subst hsize
  subst hby
  rcases hown.2 with ⟨rfl, rfl⟩ | ⟨g, cap, cur, rfl, hbg, hg, hnc, hcm, hcs, htake⟩
  · by_cases hm : m = 0
    · exact .inl (by rw [(h4.2 ⟨rfl, hm⟩)])
    · have hq := run_append_nil (P := P) w t ty e i z ht hi hz ad m c news hl hr.addr (by omega) (by omega) (by have hb := hbytes; simp only [Nat.zero_add] at hb; omega)
      rw [hq] at hrun
      injection hrun with e1 e2
      subst e1
      exact .inr fun g e => by simp [Value.ownBlock] at e; omega
  · by_cases hroom : n + m ≤ cap
    · have hfit : n * i.size + news.length ≤ cur.size := by rw [hl, hcs, ← Nat.add_mul]; exact Nat.mul_le_mul_right _ hroom
      have hq := run_append_room (P := P) w t ty e i ht hi g n cap cur hg ad m c news hl hr.addr h1 hroom hfit
      rw [hq] at hrun
      injection hrun with e1 e2
      subst e1
      exact .inl rfl
    · have holds : ∀ j u, xs[j]? = some u → w.cell? ((⟨g, 0, none⟩ : Addr).add j) = some u := hown.cells (g := g) rfl
      have hq := run_append_grow (P := P) w t ty e i z ht hi hz ⟨g, 0, none⟩ n cap xs hown.1 holds ad m c news hl hr.addr (by omega) (by omega) (growslice_fits (by omega) hbytes)
      rw [hq] at hrun
      injection hrun with e1 e2
      subst e1
      exact .inr fun g e => by simp [Value.ownBlock] at e; omega
theorem wpList_append_new {P : Program} {w : World} {ops : Array Oper} {rest : List Oper} {o : Oper} {a : Act} {Q : Exit → Act → World → Prop} (hgd : o.guard = none) (s x : Operand) (t : TypeId)
    (ho : o.op = .call { callee := .builtin .append, args := #[s, x], argTypes := #[t, t] })
    (base : Nat) (e : TypeId) (i : TypeInfo) (z : Value) (size bytes : Nat) (ht : P.underlying t = some (.slice e)) (hi : P.info? e = some i) (hz : i.zero = some z)
    (hsize : i.size = size) (hby : i.bytes = bytes) (hzs : z.cells.size = size) (hsz : 0 < size)
    (v : Value) (n : Nat) (xs : List Value) (hs : a.eval s = v) (hown : w.ownsRow base e size v n xs)
    (ad : Addr) (m c : Nat) (news : List Value) (hx : a.eval x = .slice (some ad) m c) (hl : news.length = m * size) (hr : Rd w (some ad) news) (h1 : ∀ u ∈ news, u.oneCell' = true)
    (h63 : n + m ≤ maxLen) (hbytes : (n + m) * bytes ≤ 140737488355328) (hbase : base ≤ w.heap.size)
    (h : ∀ v' w', w'.ownsRow base e size v' (n + m) (xs ++ news) → w.grownBy w' v.ownBlock → NewOr w v v' → wpList P ops Q rest (a.put o.dst v') w') : wpList P ops Q (o :: rest) a w := by
  refine wpList_plain hgd fun K hK => ?_
  obtain ⟨v', w', hrun, h2, h3, h4⟩ := run_append_new (P := P) w base t o.type e i z size bytes ht hi hz hsize hby hzs hsz v n xs hown ad m c news hl hr h1 h63 hbytes hbase
  unfold Oper.wp execOp
  simp only [ho, resolve, invoke, builtin, Sem.run_bind, Sem.run_pure, Result.andThen_ok, List.map_toArray, List.map_cons, List.map_nil, hs, hx, hrun]
  exact hK _ _ (h v' w' h2 h3 h4)
end Go.Proofs.Ytpmfdlghckfgiaa
set_option linter.unusedVariables false
namespace Go.Proofs.Ytpmfdlghckfgiaa
theorem wpOp_of_list {P : Program} {ops : Array Oper} {Q : Exit → Act → World → Prop} {i : Nat} {o : Oper} {K : Act → World → Prop} {a : Act} {w : World} (ho : ops[i]? = some o) (h : wpList P ops (Exit.then K Q) [o] a w) : wpOp P ops Q i K a w := by
  unfold wpOp
  simp only [ho]
  unfold wpList at h
  split
  · rename_i hw
    simp only [hw, if_true] at h
    rcases h with h | ⟨h1, h2⟩
    · left
      unfold Oper.wp at *
      generalize (execOp a.eval o).run P w = r at *
      cases r with
      | ok n w' =>
        cases n <;> simp only [Oper.upon] at h ⊢ <;> first
          | exact h
          | exact Calls.mono h (fun e w'' he => by cases e <;> first | exact he | (obtain ⟨a2, w2, h2⟩ := he; exact ⟨a2, w2, h2⟩))
          | exact Rows.mono h (fun _ _ he => he)
      | halt x w' => cases x <;> simp only [Oper.upon] at h ⊢ <;> exact h
    · exact .inr ⟨h1, by obtain ⟨a2, w2, h3⟩ := h2; exact ⟨a2, w2, h3⟩⟩
  · rename_i hw
    simp only [hw] at h
    exact h
end Go.Proofs.Ytpmfdlghckfgiaa
set_option linter.unusedVariables false
namespace Go.Proofs.Ytpmfdlghckfgiaa
open Go.RowKit
set_option maxRecDepth 100000 in
set_option maxHeartbeats 400000 in
theorem get_any (bs : List UInt8) (A : Option Addr) (c : Nat) (w : World) (hl : bs.length ≤ 9223372036854775807) (hR : BRd w A bs) :
    Calls Try.prog 113 #[.slice A bs.length c] w fun e w' => e = .returned (.tuple #[.int .u64 (M.get bs).1, .int .i64 (M.get bs).2.1, .int .i64 (M.get bs).2.2]) ∧ w = w' := by
  go_enter Try.func113, Try.ntmps113
  go_wp2
  go_step3
  go_wp2
  go_step3
  go_wp2
  go_loop [5, 6, 7, 8, 9, 12] (fun n s _ _ _ i => ∃ k acc : Nat, k ≤ bs.length ∧ k ≤ 9 ∧ i = .int .i64 k ∧ n = .int .u64 acc ∧ s = .int .i64 0 ∧ acc < 128 ^ k ∧ M.get bs = M.getF k acc (bs.drop k))
    (fun _ _ _ _ _ i => bs.length - (intOf i).toNat)
  case atStart => exact ⟨0, 0, by omega, by omega, rfl, rfl, rfl, by simp, by simp [M.get]⟩
  case round =>
    obtain ⟨k, acc, hk, hk9, rfl, rfl, rfl, hacc, hget⟩ := hrel
    have HG := hid hget
    clear hget
    have HA := hid hacc
    clear hacc
    by_cases hlt : k < bs.length
    · have hs := M.getF_at (acc := acc) hlt
      obtain ⟨b, off, rfl, hb, hc⟩ := hR.at_ hlt
      have hx := bs[k].toNat_lt
      generalize bs[k].toNat = y at *
      have HS := hid hs
      clear hs
      by_cases h9 : k = 9
      · subst h9
        by_cases y1 : 128 ≤ y
        · go_wp2
          go_ret3
          rw [HG.out, HS.out]
          exact ⟨by simp [y1], rfl⟩
        by_cases y2 : 1 < y
        · go_wp2
          go_ret3
          rw [HG.out, HS.out]
          exact ⟨by simp [y1, y2], rfl⟩
        · go_wp2
          go_ret3
          rw [M.get_wrap9 HA.out (by omega), HG.out, HS.out]
          exact ⟨by simp [y1, y2], rfl⟩
      · have h9' : k < 9 := by omega
        by_cases y1 : y < 128
        · have hk0 : ((k : Int) + 1 == 0) = false := by simp; omega
          go_wp2
          go_ret3
          rw [M.get_wrap hk9 HA.out y1 (by omega)]
          rw [HG.out, HS.out]
          exact ⟨by simp [h9, y1], rfl⟩
        · go_wp2
          go_round
          case rel => exact ⟨k + 1, acc + (y - 128) * 128 ^ k, by omega, by omega, by go_num, by rw [M.get_wrap' h9' HA.out (by omega) (by omega)], rfl, M.get_acc HA.out (by omega), by rw [HG.out, HS.out, if_neg h9, if_neg y1]⟩
          case measure => simp [intOf]; omega
    · have hs := M.getF_end (acc := acc) (show bs.length ≤ k by omega)
      have HS := hid hs
      clear hs
      go_wp2
      go_ret3
      rw [HG.out, HS.out]
      exact ⟨rfl, rfl⟩

set_option maxRecDepth 100000 in
set_option maxHeartbeats 1000000 in
theorem rget_any (bs : List UInt8) (A : Option Addr) (c : Nat) (w : World) (hl : bs.length ≤ 9223372036854775807) (hR : BRd w A bs) :
    Calls Try.prog 73 #[.slice A bs.length c] w fun e w' => e = .returned (.tuple #[.int .u64 (M.get bs).1, .int .i64 (M.get bs).2.1, .int .i64 (M.get bs).2.2]) ∧ w = w' := by
  go_enter Try.func73, Try.ntmps73
  go_wp2
  go_loop [5, 6, 7] (fun n m i => ∃ k acc : Nat, k ≤ bs.length ∧ k ≤ 9 ∧ i = .int .i64 k ∧ n = .int .u64 acc ∧ m = .int .u64 ((128 ^ k : Nat) : Int) ∧ acc < 128 ^ k ∧ M.get bs = M.getF k acc (bs.drop k))
    (fun _ _ i => bs.length - (intOf i).toNat)
  case atStart => exact ⟨0, 0, by omega, by omega, rfl, rfl, rfl, by simp, by simp [M.get]⟩
  case round =>
    obtain ⟨k, acc, hk, hk9, rfl, rfl, rfl, hacc, hget⟩ := hrel
    have HG := hid hget
    clear hget
    by_cases hlt : k < bs.length
    · have hs := M.getF_at (acc := acc) hlt
      have hkb : ((k : Int) == (bs.length : Int)) = false := by simp; omega
      obtain ⟨b, off, rfl, hb, hc⟩ := hR.at_ hlt
      have hx := bs[k].toNat_lt
      generalize bs[k].toNat = y at *
      have HS := hid hs
      clear hs
      by_cases h9 : k = 9
      · subst h9
        have HA := hid hacc
        clear hacc
        by_cases y1 : 128 ≤ y
        · go_wp2
          go_ret3
          rw [HG.out, HS.out]
          exact ⟨by simp [y1], rfl⟩
        by_cases y2 : 2 ≤ y
        · have d1 : decide ((128 : Int) ≤ (y : Int)) = false := by simp; omega
          have d2 : decide ((2 : Int) ≤ (y : Int)) = true := by simp; omega
          go_wp2
          go_ret3
          rw [HG.out, HS.out]
          exact ⟨by simp [y1, show 1 < y by omega], rfl⟩
        · have d1 : decide ((128 : Int) ≤ (y : Int)) = false := by simp; omega
          have d2 : decide ((2 : Int) ≤ (y : Int)) = false := by simp; omega
          go_wp2
          go_ret3
          rw [M.rget_wrap9 HA.out (by omega), HG.out, HS.out]
          exact ⟨by simp [y1, show ¬ 1 < y by omega], rfl⟩
      · have hk9b : ((k : Int) == 9) = false := by simp; omega
        have h9' : k < 9 := by omega
        have hm8 : (128 : Nat) ^ k ≤ 128 ^ 8 := Nat.pow_le_pow_right (by omega) (by omega)
        have hp := M.get_acc (y := y) hacc (by omega)
        have hps : (128 : Nat) ^ (k + 1) = 128 ^ k * 128 := Nat.pow_succ ..
        have hw := M.rget_wrap h9' hacc hx
        have HPS := hid hps
        have HW := hid hw
        clear hps hw
        generalize hM : (128 ^ k : Nat) = P at *
        clear hM
        by_cases y1 : y < 128
        · go_wp2
          go_ret3
          rw [HW.out, show y % 128 = y from by omega, HG.out, HS.out]
          exact ⟨by simp [h9, y1], rfl⟩
        · go_wp2
          go_round
          case rel => exact ⟨k + 1, acc + (y - 128) * P, by omega, by omega, by go_num, by rw [HW.out, show y % 128 = y - 128 from by omega], by rw [HPS.out]; go_num, hp, by rw [HG.out, HS.out, if_neg h9, if_neg y1]⟩
          case measure => simp [intOf]; omega
    · have hs := M.getF_end (acc := acc) (show bs.length ≤ k by omega)
      have hkb : ((k : Int) == (bs.length : Int)) = true := by simp; omega
      have HS := hid hs
      have HA := hid hacc
      clear hs hacc
      go_wp2
      go_ret3
      rw [HG.out, HS.out]
      exact ⟨rfl, rfl⟩
end Go.Proofs.Ytpmfdlghckfgiaa
set_option linter.unusedVariables false
namespace Go.Proofs.Ytpmfdlghckfgiaa
open Go.RowKit
theorem Try.info24 : (Try.prog.info? 24).map (fun i => (i.zero, i.size, i.bytes)) = some (some (.int .u64 0), 1, 8) := by kernel_rfl
theorem get_at (bs : List UInt8) (n : Nat) (A : Option Addr) (c : Nat) (w : World) (hn : bs.length = n) (hl : n ≤ 9223372036854775807) (hR : BRd w A bs) :
    Calls Try.prog 113 #[.slice A n c] w fun e w' => e = .returned (.tuple #[.int .u64 (M.get bs).1, .int .i64 (M.get bs).2.1, .int .i64 (M.get bs).2.2]) ∧ w = w' := by
  subst hn; exact get_any bs A c w hl hR
theorem rget_at (bs : List UInt8) (n : Nat) (A : Option Addr) (c : Nat) (w : World) (hn : bs.length = n) (hl : n ≤ 9223372036854775807) (hR : BRd w A bs) :
    Calls Try.prog 73 #[.slice A n c] w fun e w' => e = .returned (.tuple #[.int .u64 (M.get bs).1, .int .i64 (M.get bs).2.1, .int .i64 (M.get bs).2.2]) ∧ w = w' := by
  subst hn; exact rget_any bs A c w hl hR
theorem BRd.drop {w : World} {b off : Nat} {bs : List UInt8} (h : BRd w (some ⟨b, off, none⟩) bs) (k : Nat) : BRd w (some ⟨b, off + k, none⟩) (bs.drop k) := by
  intro j u hj
  rw [List.map_drop, List.getElem?_drop] at hj
  obtain ⟨b', off', he, hlt, hc⟩ := h (k + j) u hj
  injection he with he; injection he with h1 h2; subst h1; subst h2
  exact ⟨b, off + k, rfl, hlt, by rw [Nat.add_assoc]; exact hc⟩
end Go.Proofs.Ytpmfdlghckfgiaa
set_option linter.unusedVariables false
namespace Go.Proofs.Ytpmfdlghckfgiaa
open Go.RowKit Go.Shelf
attribute [local go_sem] Oper.semAt_some

abbrev Sev : Type := { p : Nat × Bool // p.1 < 128 }
def sevs (n : Nat) : List Sev := if h : n < 128 then [⟨(n, false), h⟩] else ⟨(n % 128, true), by omega⟩ :: sevs (n / 128)
  termination_by n
  decreasing_by omega

end Go.Proofs.Ytpmfdlghckfgiaa
set_option linter.unusedVariables false
namespace Go.Proofs.Ytpmfdlghckfgiaa
open Go.RowKit Go.Shelf
attribute [local go_sem] Oper.semAt_some

def sevB (x : Sev) : UInt8 := if x.1.2 then UInt8.ofNat (x.1.1 + 128) else UInt8.ofNat x.1.1
def putN (n : Nat) : List UInt8 := (sevs n).map sevB

end Go.Proofs.Ytpmfdlghckfgiaa
set_option linter.unusedVariables false
namespace Go.Proofs.Ytpmfdlghckfgiaa
open Go.RowKit
/-- so many bytes of a number, the lowest first -/
def fixN : Nat → Nat → List UInt8
  | 0, _ => []
  | k + 1, n => b8 (n % 256) :: fixN k (n / 256)
def unfixN : List UInt8 → Nat
  | [] => 0
  | x :: r => x.toNat + 256 * unfixN r
theorem length_fixN (k : Nat) : ∀ n, (fixN k n).length = k := by induction k with | zero => intro n; rfl | succ k ih => intro n; simp [fixN, ih]
theorem unfixN_lt (l : List UInt8) : unfixN l < 256 ^ l.length := by
  induction l with
  | nil => simp [unfixN]
  | cons x r ih => have := x.toNat_lt; simp only [unfixN, List.length_cons, Nat.pow_succ]; omega
theorem unfixN_snoc (l : List UInt8) (x : UInt8) : unfixN (l ++ [x]) = unfixN l + x.toNat * 256 ^ l.length := by
  induction l with
  | nil => simp [unfixN]
  | cons y r ih => simp only [List.cons_append, unfixN, ih, List.length_cons, Nat.pow_succ, Nat.mul_add]; rw [Nat.mul_comm (256 ^ r.length) 256, Nat.mul_left_comm x.toNat 256]; omega
theorem unfixN_take {bs : List UInt8} {k : Nat} (h : k < bs.length) : unfixN (bs.take (k + 1)) = unfixN (bs.take k) + bs[k].toNat * 256 ^ k := by
  rw [List.take_succ_eq_append_getElem h, unfixN_snoc, List.length_take, Nat.min_eq_left (by omega)]
theorem unfixN_take_lt (bs : List UInt8) (k : Nat) (h : k ≤ bs.length) : unfixN (bs.take k) < 256 ^ k := by
  have := unfixN_lt (bs.take k)
  rwa [List.length_take, Nat.min_eq_left h] at this
theorem pow256 {k : Nat} (h : k ≤ 8) : (256 : Nat) ^ k ≤ 18446744073709551616 := by
  have : (256 : Nat) ^ k ≤ 256 ^ 8 := Nat.pow_le_pow_right (by omega) h
  omega
theorem number_wrap {bs : List UInt8} {k : Nat} (h : k < bs.length) (hk : k < 8) :
    IntKind.u64.wrap ((unfixN (bs.take k) : Int) + IntKind.u64.wrap ((bs[k].toNat : Int) * 2 ^ (8 * k))) = (unfixN (bs.take (k + 1)) : Int) := by
  have h1 := unfixN_take h
  have h2 := unfixN_take_lt bs (k + 1) (by omega)
  have h3 := pow256 (k := k + 1) (by omega)
  have e : (bs[k].toNat : Int) * 2 ^ (8 * k) = ((bs[k].toNat * 256 ^ k : Nat) : Int) := by rw [show (256 : Nat) ^ k = 2 ^ (8 * k) from by rw [Nat.pow_mul]]; simp
  rw [e]
  generalize bs[k].toNat * 256 ^ k = z at *
  rw [IntWalk.u64_in (z : Int) (by omega), IntWalk.u64_in _ (by omega)]
  omega

set_option maxRecDepth 100000 in
set_option maxHeartbeats 400000 in
theorem number_any (bs : List UInt8) (A : Option Addr) (c k : Nat) (w : World) (hk1 : 1 ≤ k) (hk : k ≤ 8) (hR : Sl w A c (bs.map bv)) :
    Calls Try.prog 120 #[.slice A bs.length c, .int .i64 (k : Int)] w fun e w' => e = .returned (.tuple #[.int .u64 (if bs.length < k then 0 else unfixN (bs.take k)), .int .i64 (if bs.length < k then 4 else 0)]) ∧ w = w' := by
  have hc := hR.cap
  have hs := hR.small
  simp only [List.length_map] at hc
  by_cases hlt : bs.length < k
  · go_enter Try.func120, Try.ntmps120
    go_wp2
    go_ret2
    exact ⟨by simp, rfl⟩
  · have hle : k ≤ bs.length := by omega
    obtain ⟨b, off, rfl, hb, _⟩ := BRd.at_ hR.rd (k := 0) (by omega)
    go_enter Try.func120, Try.ntmps120
    go_wp2
    go_loop [6, 7, 8, 17] (fun n _ _ i => ∃ j : Nat, j ≤ k ∧ i = .int .i64 j ∧ n = .int .u64 (unfixN (bs.take j) : Int)) (fun _ _ _ i => k - (intOf i).toNat)
    case atStart => exact ⟨0, by omega, rfl, by simp [unfixN]⟩
    case round =>
      obtain ⟨j, hj, rfl, rfl⟩ := hrel
      by_cases hjk : j < k
      · have hn := number_wrap (bs := bs) (k := j) (by omega) (by omega)
        obtain ⟨b', off', he, hb', hcell⟩ := BRd.at_ hR.rd (k := j) (by omega)
        injection he with he
        injection he with he1 he2
        subst he1
        subst he2
        have hx := (bs[j]'(by omega)).toNat_lt
        generalize (bs[j]'(by omega)).toNat = y at *
        have HN := hid hn
        clear hn
        go_wp2
        go_round
        case rel => exact ⟨j + 1, by omega, by go_num, by rw [← HN.out]⟩
        case measure => simp [intOf] <;> omega
      · obtain rfl : j = k := by omega
        go_wp2
        go_ret2
        exact ⟨by simp, rfl⟩

set_option maxRecDepth 100000 in
set_option maxHeartbeats 400000 in
theorem get32_any (bs : List UInt8) (A : Option Addr) (c : Nat) (w : World) (hR : Sl w A c (bs.map bv)) :
    Calls Try.prog 117 #[.slice A bs.length c] w fun e w' => e = .returned (.tuple #[.int .u32 (if bs.length < 4 then 0 else unfixN (bs.take 4)), .int .i64 (if bs.length < 4 then 4 else 0)]) ∧ w = w' := by
  have hv : 0 ≤ (if bs.length < 4 then 0 else (unfixN (bs.take 4) : Int)) ∧ (if bs.length < 4 then 0 else (unfixN (bs.take 4) : Int)) ≤ 4294967295 := by
    split
    · omega
    · have := unfixN_take_lt bs 4 (by omega); omega
  have hc : Calls Try.prog 120 #[.slice A bs.length c, .int .i64 4] w _ := number_any bs A c 4 w (by omega) (by omega) hR
  generalize (if bs.length < 4 then 0 else (unfixN (bs.take 4) : Int)) = v at *
  generalize (if bs.length < 4 then (4 : Int) else 0) = u at *
  have HC := hid hc
  clear hc
  go_enter Try.func117, Try.ntmps117
  go_wp2_with (go_at_call 120; refine HC.out.mono ?_; rintro e w' ⟨rfl, rfl⟩)
  go_ret2
  exact ⟨rfl, rfl⟩
set_option maxRecDepth 100000 in
set_option maxHeartbeats 400000 in
theorem get64_any (bs : List UInt8) (A : Option Addr) (c : Nat) (w : World) (hR : Sl w A c (bs.map bv)) :
    Calls Try.prog 115 #[.slice A bs.length c] w fun e w' => e = .returned (.tuple #[.int .u64 (if bs.length < 8 then 0 else unfixN (bs.take 8)), .int .i64 (if bs.length < 8 then 4 else 0)]) ∧ w = w' := by
  have hc : Calls Try.prog 120 #[.slice A bs.length c, .int .i64 8] w _ := number_any bs A c 8 w (by omega) (by omega) hR
  generalize (if bs.length < 8 then 0 else (unfixN (bs.take 8) : Int)) = v at *
  generalize (if bs.length < 8 then (4 : Int) else 0) = u at *
  have HC := hid hc
  clear hc
  go_enter Try.func115, Try.ntmps115
  go_wp2_with (go_at_call 120; refine HC.out.mono ?_; rintro e w' ⟨rfl, rfl⟩)
  go_ret2
  exact ⟨rfl, rfl⟩

theorem unfixN_drop {bs : List UInt8} {k j : Nat} (h : j < k) (hk : k ≤ bs.length) : unfixN ((bs.take k).drop j) = (bs[j]'(by omega)).toNat + 256 * unfixN ((bs.take k).drop (j + 1)) := by
  rw [List.drop_eq_getElem_cons (by rw [List.length_take]; omega), unfixN]
  simp
theorem unfixN_drop_lt (bs : List UInt8) (k j : Nat) (hk : k ≤ bs.length) : unfixN ((bs.take k).drop j) < 256 ^ (k - j) := by
  have := unfixN_lt ((bs.take k).drop j)
  rwa [List.length_drop, List.length_take, Nat.min_eq_left hk] at this
set_option maxRecDepth 100000 in
set_option maxHeartbeats 400000 in
theorem unfix_any (bs : List UInt8) (A : Option Addr) (c k : Nat) (w : World) (hk1 : 1 ≤ k) (hk : k ≤ 8) (hle : k ≤ bs.length) (hl : bs.length ≤ 9223372036854775807) (hR : BRd w A bs) :
    Calls Try.prog 76 #[.slice A bs.length c, .int .i64 (k : Int)] w fun e w' => e = .returned (.int .u64 (unfixN (bs.take k))) ∧ w = w' := by
  go_enter Try.func76, Try.ntmps76
  go_wp2
  go_loop [5, 6] (fun n i => ∃ j : Nat, j ≤ k ∧ i = .int .i64 ((j : Int) - 1) ∧ n = .int .u64 (unfixN ((bs.take k).drop j) : Int)) (fun _ i => (intOf i + 1).toNat)
  case atStart => exact ⟨k, by omega, rfl, by rw [List.drop_eq_nil_of_le (by rw [List.length_take]; omega)]; rfl⟩
  case round =>
    obtain ⟨j, hj, rfl, rfl⟩ := hrel
    by_cases h0 : 0 < j
    · obtain ⟨i, rfl⟩ : ∃ i, j = i + 1 := ⟨j - 1, by omega⟩
      have hn := unfixN_drop (bs := bs) (k := k) (j := i) (by omega) hle
      have hlt := unfixN_drop_lt bs k i hle
      have hp := pow256 (k := k - i) (by omega)
      obtain ⟨b', off', rfl, hb', hcell⟩ := hR.at_ (k := i) (by omega)
      rw [show (((i + 1 : Nat) : Int) - 1) = (i : Int) from by omega]
      have hx := (bs[i]'(by omega)).toNat_lt
      generalize (bs[i]'(by omega)).toNat = y at *
      generalize unfixN ((bs.take k).drop (i + 1)) = z at *
      have hz : (0 : Int) ≤ z * 256 ∧ (z : Int) * 256 ≤ 18446744073709551615 ∧ (z : Int) * 256 + y ≤ 18446744073709551615 := by omega
      have HN := hid hn
      clear hn hlt hp
      go_wp2
      go_round
      case rel => exact ⟨i, by omega, by go_num, by rw [HN.out]; go_num⟩
      case measure => simp [intOf]
    · obtain rfl : j = 0 := by omega
      go_wp2
      go_ret
      exact ⟨by simp, rfl⟩
end Go.Proofs.Ytpmfdlghckfgiaa
set_option linter.unusedVariables false
namespace Go.Proofs.Ytpmfdlghckfgiaa
open Go.RowKit
theorem putN_small {n : Nat} (h : n < 128) : putN n = [b8 n] := by simp [putN, sevs, h, sevB, b8]
theorem putN_big {n : Nat} (h : ¬ n < 128) : putN n = b8 (n % 128 + 128) :: putN (n / 128) := by
  rw [putN, sevs, dif_neg h]; simp [sevB, putN, b8]
end Go.Proofs.Ytpmfdlghckfgiaa
set_option linter.unusedVariables false
namespace Go.Proofs.Ytpmfdlghckfgiaa
open Go.RowKit Go.Shelf
attribute [local go_sem] Oper.semAt_some
/-- What a round must keep: block B lies as it lay. -/
def KB (B : Nat) (o : Obj) (A A' : World) : Prop := A.heap[B]? = some o → A'.heap[B]? = some o
theorem KB.t {B : Nat} {o : Obj} {A A' A'' : World} (h : KB B o A A') (h' : KB B o A' A'') : KB B o A A'' := fun hA => h' (h hA)
theorem KB.b {B N : Nat} {o : Obj} (hB : B < N) (W : World) (l : Nat) (p p' : Obj) (hl : N ≤ l) (_ : W.heap[l]? = some p) (_ : p.isCells = false) (_ : p.isWalk = false) : KB B o W (W.putObj l p') :=
  fun hA => (World.putObj_heap_other (by omega)).trans hA
end Go.Proofs.Ytpmfdlghckfgiaa
set_option linter.unusedVariables false
namespace Go.Proofs.Ytpmfdlghckfgiaa
open Go.RowKit

set_option maxRecDepth 100000 in
set_option maxHeartbeats 1000000 in
theorem same_any (xs ys : List UInt8) (A B : Option Addr) (c d : Nat) (w : World) (hl : xs.length ≤ 9223372036854775807) (hA : BRd w A xs) (hB : BRd w B ys) :
    Calls Try.prog 37 #[.slice A xs.length c, .slice B ys.length d] w fun e w' => e = .returned (.bool (decide (xs = ys))) ∧ ∃ n, w' = w.drewN n := by
  by_cases hne : xs.length = ys.length
  · have hnb : ((xs.length : Int) != (ys.length : Int)) = false := by simp [hne]
    have HNE := hid hne
    clear hne
    go_enter Try.func37, Try.ntmps37
    go_wp2
    go_loopw [5] (fun i wr => ∃ k n : Nat, k ≤ xs.length ∧ i = .int .i64 k ∧ wr = w.drewN n ∧ xs.take k = ys.take k) (fun i _ => xs.length - (intOf i).toNat)
    case atStart => exact ⟨0, 0, by omega, rfl, rfl, by simp⟩
    case round =>
      obtain ⟨k, n, hk, rfl, rfl, ht⟩ := hrel
      have HT := hid ht
      clear ht
      by_cases hlt : k < xs.length
      · have hlt2 : k < ys.length := by have := HNE.out; omega
        obtain ⟨b1, o1, rfl, hb1, hc1⟩ := hA.at_ hlt
        obtain ⟨b2, o2, rfl, hb2, hc2⟩ := hB.at_ hlt2
        by_cases hxy : xs[k] = ys[k]
        · rw [hxy] at hc1
          generalize hy : (ys[k].toNat : Int) = y at hc1 hc2
          clear hy
          go_wp2
          go_quiet (fail)
          go_wp2
          go_roundw
          case rel => exact ⟨k + 1, _, by omega, by go_num, rfl, by rw [List.take_succ_eq_append_getElem hlt, List.take_succ_eq_append_getElem hlt2, HT.out, hxy]⟩
          case measure => simp [intOf]; omega
        · have hne : ((xs[k].toNat : Int) != (ys[k].toNat : Int)) = true := by
            rw [bne_iff_ne]; intro h; exact hxy (UInt8.toNat_inj.1 (by omega))
          generalize (xs[k].toNat : Int) = x at *
          generalize (ys[k].toNat : Int) = y at *
          go_wp2
          go_quiet (fail)
          go_wp2
          go_ret
          exact ⟨ret_bool (by simp [ne_of_get hlt hlt2 hxy]), _, World.drewN_drewN ..⟩
      · go_wp2
        go_ret
        exact ⟨ret_bool (by simp [eq_of_take HNE.out (by omega) HT.out]), _, rfl⟩
  · have hnb : ((xs.length : Int) != (ys.length : Int)) = true := by rw [bne_iff_ne]; omega
    go_enter Try.func37, Try.ntmps37
    go_wp2
    go_ret
    exact ⟨ret_bool (by simp; rintro rfl; exact hne rfl), 0, rfl⟩
end Go.Proofs.Ytpmfdlghckfgiaa
set_option linter.unusedVariables false
namespace Go.Proofs.Ytpmfdlghckfgiaa
open Go.RowKit
def zig (n : Int) : Int := if 0 ≤ n then 2 * n else 2 * (-(n + 1)) + 1
def zag (n : Int) : Int := if n % 2 = 0 then n / 2 else -(n / 2) - 1
set_option maxRecDepth 100000 in
set_option maxHeartbeats 400000 in
theorem zag_any (n : Int) (w : World) (h1 : 0 ≤ n) (h2 : n ≤ 18446744073709551615) :
    Calls Try.prog 47 #[.int .u64 n] w fun e w' => e = .returned (.int .i64 (zag n)) ∧ w = w' := by
  by_cases h : n % 2 = 0
  all_goals
    go_enter Try.func47, Try.ntmps47
    go_wp2
    all_goals go_ret
    all_goals exact ⟨ret_int (by unfold zag; split <;> omega), rfl⟩

/-- How many bytes a number has. -/
def sizeN (n : Nat) : Nat := if n < 128 then 1 else 1 + sizeN (n / 128)
  termination_by n
  decreasing_by omega
end Go.Proofs.Ytpmfdlghckfgiaa
set_option linter.unusedVariables false
namespace Go.Proofs.Ytpmfdlghckfgiaa
open Go.RowKit
def wireB (w : Int) : Bool := decide (w = 0 ∨ w = 1 ∨ w = 2 ∨ w = 5)
def widthN (w : Int) : Int := if w = 1 then 8 else if w = 5 then 4 else 0
/-- Make: the tag and the error. -/
def mk (num wire : Int) : Int × Int := if num < 1 ∨ 536870911 < num then (0, 1) else if wireB wire = false then (0, 7) else (8 * num + wire, 0)
def spl (n : Int) : Int × Int × Int := if n / 8 < 1 ∨ 536870911 < n / 8 then (0, 0, 1) else if wireB (n % 8) = false then (0, 0, 7) else (n / 8, n % 8, 0)
theorem mk_ok {n x : Int} (h : 1 ≤ n) (h' : n ≤ 536870911) (hw : wireB x = true) : mk n x = (8 * n + x, 0) := by unfold mk; rw [if_neg (by omega), if_neg (by simp [hw])]
theorem spl_bad {n : Int} (h : 1 ≤ n / 8) (h' : n / 8 ≤ 536870911) (hw : wireB (n % 8) = false) : spl n = (0, 0, 7) := by unfold spl; rw [if_neg (by omega), if_pos hw]
theorem spl_ok {n : Int} (h : 1 ≤ n / 8) (h' : n / 8 ≤ 536870911) (hw : wireB (n % 8) = true) : spl n = (n / 8, n % 8, 0) := by unfold spl; rw [if_neg (by omega), if_neg (by simp [hw])]
set_option maxRecDepth 100000 in
set_option maxHeartbeats 400000 in
theorem width_any (x : Int) (w : World) (h1 : 0 ≤ x) (h2 : x ≤ 255) :
    Calls Try.prog 109 #[.int .u8 x] w fun e w' => e = .returned (.tuple #[.int .i64 (widthN x), .bool (wireB x)]) ∧ w = w' := by
  by_cases a0 : x = 0
  · subst a0
    go_enter Try.func109, Try.ntmps109
    go_wp2
    go_ret2
    exact ⟨by simp [widthN, wireB], rfl⟩
  by_cases a1 : x = 1
  · subst a1
    go_enter Try.func109, Try.ntmps109
    go_wp2
    go_ret2
    exact ⟨by simp [widthN, wireB], rfl⟩
  by_cases a2 : x = 2
  · subst a2
    go_enter Try.func109, Try.ntmps109
    go_wp2
    go_ret2
    exact ⟨by simp [widthN, wireB], rfl⟩
  by_cases a5 : x = 5
  · subst a5
    go_enter Try.func109, Try.ntmps109
    go_wp2
    go_ret2
    exact ⟨by simp [widthN, wireB], rfl⟩
  · have e0 : (x == 0) = false := by simpa using a0
    have e1 : (x == 1) = false := by simpa using a1
    have e2 : (x == 2) = false := by simpa using a2
    have e5 : (x == 5) = false := by simpa using a5
    go_enter Try.func109, Try.ntmps109
    go_wp2
    go_ret2
    exact ⟨by simp [widthN, wireB, a0, a1, a2, a5], rfl⟩
set_option maxRecDepth 100000 in
set_option maxHeartbeats 400000 in
theorem wire_any (x : Int) (w : World) :
    Calls Try.prog 91 #[.int .u8 x] w fun e w' => e = .returned (.bool (wireB x)) ∧ w = w' := by
  by_cases a0 : x = 0
  · subst a0
    go_enter Try.func91, Try.ntmps91
    go_wp2
    go_ret
    exact ⟨by simp [wireB], rfl⟩
  have e0 : (x == 0) = false := by simpa using a0
  by_cases a1 : x = 1
  · subst a1
    go_enter Try.func91, Try.ntmps91
    go_wp2
    go_ret
    exact ⟨by simp [wireB], rfl⟩
  have e1 : (x == 1) = false := by simpa using a1
  by_cases a2 : x = 2
  · subst a2
    go_enter Try.func91, Try.ntmps91
    go_wp2
    go_ret
    exact ⟨by simp [wireB], rfl⟩
  have e2 : (x == 2) = false := by simpa using a2
  go_enter Try.func91, Try.ntmps91
  go_wp2
  go_ret
  exact ⟨ret_bool (by simp [wireB, a0, a1, a2]; by_cases h : x = 5 <;> simp [h]), rfl⟩
set_option maxRecDepth 100000 in
set_option maxHeartbeats 400000 in
theorem split_any (n : Int) (w : World) (h1 : 0 ≤ n) (h2 : n ≤ 18446744073709551615) :
    Calls Try.prog 112 #[.int .u64 n] w fun e w' => e = .returned (.tuple #[.int .i64 (spl n).1, .int .u8 (spl n).2.1, .int .i64 (spl n).2.2]) ∧ w = w' := by
  by_cases a : n / 8 < 1
  · go_enter Try.func112, Try.ntmps112
    go_wp2
    go_ret3
    exact ⟨by simp [spl, a], rfl⟩
  by_cases b : 536870911 < n / 8
  · go_enter Try.func112, Try.ntmps112
    go_wp2
    go_ret3
    exact ⟨by simp [spl, b], rfl⟩
  cases hw : wireB (n % 8)
  all_goals
    go_enter Try.func112, Try.ntmps112
    go_wp2_with (go_at_call 109; refine (width_any _ _ (by omega) (by omega)).mono ?_; rintro e w' ⟨rfl, rfl⟩)
    go_ret3
    first | rw [spl_bad (by omega) (by omega) hw] | rw [spl_ok (by omega) (by omega) hw]
    exact ⟨rfl, rfl⟩
set_option maxRecDepth 100000 in
set_option maxHeartbeats 400000 in
theorem rsplit_any (n : Int) (w : World) (h1 : 0 ≤ n) (h2 : n ≤ 18446744073709551615) :
    Calls Try.prog 75 #[.int .u64 n] w fun e w' => e = .returned (.tuple #[.int .i64 (spl n).1, .int .u8 (spl n).2.1, .int .i64 (spl n).2.2]) ∧ w = w' := by
  by_cases a : n / 8 < 1
  · go_enter Try.func75, Try.ntmps75
    go_wp2
    go_ret3
    exact ⟨by simp [spl, a], rfl⟩
  by_cases b : 536870911 < n / 8
  · go_enter Try.func75, Try.ntmps75
    go_wp2
    go_ret3
    exact ⟨by simp [spl, b], rfl⟩
  cases hw : wireB (n % 8)
  all_goals
    go_enter Try.func75, Try.ntmps75
    go_wp2_with (go_at_call 91; refine (wire_any _ _).mono ?_; rintro e w' ⟨rfl, rfl⟩)
    go_ret3
    first | rw [spl_bad (by omega) (by omega) hw] | rw [spl_ok (by omega) (by omega) hw]
    exact ⟨rfl, rfl⟩
end Go.Proofs.Ytpmfdlghckfgiaa
set_option linter.unusedVariables false
namespace Go.Proofs.Ytpmfdlghckfgiaa
open Go.RowKit
/-- Marks: blocks from B on, each of which collected no call. -/
def Marks (B : Nat) (W : World) (Ds : List Nat) : Prop := Ds.Nodup ∧ ∀ D ∈ Ds, B ≤ D ∧ W.heap[D]? = some (.deferred (some []))
def marksOf (Ds : List Nat) : List Deferred := Ds.map fun D => { target := .collected D, args := #[] }
theorem Marks.nil_ (B : Nat) (W : World) : Marks B W [] := ⟨List.nodup_nil, fun D h => by simp at h⟩
theorem Marks.lt {B : Nat} {W : World} {Ds : List Nat} (h : Marks B W Ds) {D : Nat} (hD : D ∈ Ds) : D < W.heap.size := (Array.getElem?_eq_some_iff.1 (h.2 D hD).2).1
theorem Marks.cons_ {B : Nat} {W : World} {Ds : List Nat} (h : Marks B W Ds) {D : Nat} (hD : B ≤ D) (hn : D ∉ Ds) (hk : W.heap[D]? = some (.deferred (some []))) : Marks B W (D :: Ds) :=
  ⟨List.nodup_cons.2 ⟨hn, h.1⟩, fun x hx => by rcases List.mem_cons.1 hx with rfl | hx; exact ⟨hD, hk⟩; exact h.2 x hx⟩
theorem Marks.chg {B : Nat} {W W' : World} {Ds : List Nat} {S : Nat → Prop} (h : Marks B W Ds) (hc : Chg S W W') (hS : ∀ D ∈ Ds, ¬ S D) : Marks B W' Ds :=
  ⟨h.1, fun D hD => ⟨(h.2 D hD).1, (hc.block D (h.lt hD) (hS D hD)).trans (h.2 D hD).2⟩⟩
theorem chg_putObj {S : Nat → Prop} {W : World} {l : Nat} (o : Obj) (hl : S l) : Chg S W (W.putObj l o) := Chg.of_grown (grownBy_putObj' W l o) fun g e => by cases e; exact hl
/-- Whoever leaves with such marks leaves as without. -/
theorem leaves_marks {F : Fence} {n : Nat} {P : Program} {fn : Func} {tmps : Array Value} {R : Ending → World → Prop} (B : Nat) : ∀ (Ds : List Nat) (W : World), Marks B W Ds →
    (∀ W', Chg (fun k => k ∈ Ds) W W' → LeavesInM F n P fn tmps R [] .returning W') → LeavesInM F n P fn tmps R (marksOf Ds) .returning W
  | [], W, _, h => h W (Chg.refl _ _)
  | D :: Ds, W, hm, h => by
    obtain ⟨hnd, hall⟩ := hm
    have hD := hall D (List.mem_cons_self ..)
    refine ⟨by simp, .inl ⟨D, _, rfl, run_takeDeferred hD.2, ?_⟩⟩
    have hc : Chg (fun k => k ∈ D :: Ds) W (W.putObj D (.deferred none)) := chg_putObj _ (List.mem_cons_self ..)
    have hc1 : Chg (fun k => k = D) W (W.putObj D (.deferred none)) := chg_putObj _ rfl
    refine leaves_marks B Ds _ (Marks.chg ⟨(List.nodup_cons.1 hnd).2, fun x hx => hall x (List.mem_cons_of_mem _ hx)⟩ hc1 fun x hx e => ?_) fun W' hW' => h W' (hc.trans (hW'.mono fun k _ hk => List.mem_cons_of_mem _ hk))
    subst e
    exact (List.nodup_cons.1 hnd).1 hx
end Go.Proofs.Ytpmfdlghckfgiaa
set_option linter.unusedVariables false
namespace Go.Proofs.Ytpmfdlghckfgiaa
open Go.RowKit
/-- Some blocks lie as they lay. -/
def KN (z n : Nat) (W W' : World) : Prop := ∀ q, z ≤ q → q < z + n → W'.heap[q]? = W.heap[q]?
theorem KN.of_chg {z n : Nat} {W W' : World} {S : Nat → Prop} (h : Chg S W W') (hz : z + n ≤ W.heap.size) (h0 : ∀ q, z ≤ q → q < z + n → ¬ S q) : KN z n W W' := fun q h1 h2 => h.block q (by omega) (h0 q h1 h2)
theorem KN.trans {z n : Nat} {W W' W'' : World} (h : KN z n W W') (k : KN z n W' W'') : KN z n W W'' := fun q h1 h2 => (k q h1 h2).trans (h q h1 h2)
theorem KN.refl (z n : Nat) (W : World) : KN z n W W := fun _ _ _ => rfl
theorem KN.sub {z n a k : Nat} {W W' : World} (h : KN z n W W') (h1 : z ≤ a) (h2 : a + k ≤ z + n) : KN a k W W' := fun q g1 g2 => h q (by omega) (by omega)
/-- How a round's body ends. -/
def rPost (z n : Nat) (I : Nat → World → Prop) (Ix : Code → World → Prop) (j : Nat) (W : World) : Exit → Act → World → Prop
  | .normal, _, W' => KN z n W W' ∧ I (j + 1) W'
  | .ret, _, W' => KN z n W W' ∧ Ix .ret W'
  | .exit id, _, W' => KN z n W W' ∧ Ix (.exit id) W'
  | .goto t, _, W' => KN z n W W' ∧ Ix (.goto t) W'
  | .panic _, _, _ => False
  | .outgrown, _, _ => False
set_option maxRecDepth 100000 in
set_option maxHeartbeats 2000000 in
theorem range_wide {P : Program} {g : Operand} {ps : Array Tmp} {assign body : Code} {Q : Exit → Act → World → Prop} {a : Act} {w : World} (m : Nat) (hm : 2 ≤ m) (z : Nat) (hz : w.heap.size = z)
    {gf : Nat} {lb : Array Value} (hg : a.eval g = .func (.func gf) #[] lb) (eg : ∀ args w, (callFunc gf args).run P w = .ok (.enter gf args) w)
    (N : Nat) (enc : Nat → Array Value) (hps : ∀ j, (enc j).size = ps.size) (own : Nat) (I : Nat → World → Prop) (Ix : Code → World → Prop)
    (hI : ∀ j W W', I j W → Chg (fun q => z ≤ q ∧ q < z + 2 + own) W W' → I j W') (hIx : ∀ c W W', Ix c W → Chg (fun q => z ≤ q ∧ q < z + 2 + own) W W' → Ix c W') (h0 : I 0 w)
    (hseq : ∀ (l : Nat) (J : Nat → World → Prop) (Jx : World → Prop) (W : World), W.heap.size = z + 2 → (∀ j W, J j W → I j W ∧ z + 2 ≤ W.heap.size) → (∀ j W W', J j W → Chg (fun q => z + 2 ≤ q ∧ q < z + 2 + own) W W' → J j W') → (∀ W W', Jx W → Chg (fun q => z + 2 ≤ q ∧ q < z + 2 + own) W W' → Jx W') → J 0 W →
      (∀ j W, j < N → J j W → z + 2 + own ≤ W.heap.size → YieldAt Fence.wide (m - 1 - 1) P l (enc j) W fun e W' => (e = .returned (.bool true) ∧ J (j + 1) W' ∧ KN (z + 2) own W W') ∨ (e = .returned (.bool false) ∧ Jx W' ∧ KN (z + 2) own W W')) →
      CallsIn Fence.wide (m - 1) P gf (#[.func (.yield l) #[] #[]] ++ lb) W fun e W' => (∃ v, e = .returned v) ∧ (J N W' ∨ Jx W'))
    (hbody : ∀ (l j : Nat) (W : World), j < N → I j W → z + 2 + own ≤ W.heap.size →
      assign.wpIn (Fence.wide.inRound l) (m - 1 - 1) P (Exit.then (fun a₁ W₁ => KN z (2 + own) W W₁ ∧ z + 2 + own ≤ W₁.heap.size ∧ ∀ W₂, Chg (fun q => q = z + 1) W₁ W₂ → body.wpIn (Fence.wide.inRound l) (m - 1 - 1) P (rPost z (2 + own) I Ix j W₂) a₁ W₂) (fun _ _ _ => False))
        { tmps := (ps.zip (enc j)).foldl (fun t (p, v) => t.setIfInBounds p v) a.tmps, defers := [] } W)
    (hdone : ∀ W, I N W → W.heap[z]? = some (.deferred (some [])) → Q .normal { a with defers := { target := .collected z, args := #[] } :: a.defers } W)
    (hstop : ∀ c W, Ix c W → W.heap[z]? = some (.deferred (some [])) → c.wpIn Fence.wide m P Q { a with defers := { target := .collected z, args := #[] } :: a.defers } W) :
    (Code.rangeFunc g ps assign body).wpIn Fence.wide m P Q a w := by
  refine wpIn_rangeFunc fun fn _ => ?_
  obtain ⟨rec, hrec⟩ : ∃ rec : LoopState → Option Code → Loop, rec = fun st pe => { state := st, pending := pe, fn, tmps := a.tmps, params := ps, assign := assign, body := body, defers := z } := ⟨_, rfl⟩
  obtain ⟨W1, hW1⟩ : ∃ W1, (w.alloc (.deferred (some []))).alloc (.loop (rec .ready none)) = W1 := ⟨_, rfl⟩
  have hz1 : W1.heap.size = z + 2 := by rw [← hW1]; simp [hz]
  have hL1 : W1.heap[z + 1]? = some (.loop (rec .ready none)) := by
    rw [← hW1]; have := World.alloc_heap_new (w.alloc (.deferred (some []))) (.loop (rec .ready none)); rwa [World.size_alloc, hz] at this
  have hK1 : W1.heap[z]? = some (.deferred (some [])) := by
    have h := World.alloc_heap_new w (.deferred (some []))
    rw [hz] at h
    rw [← hW1]; exact (Below.heap_alloc _ _ _ (by simp [hz])).trans h
  have hC1 : ∀ S, Chg S w W1 := fun S => by rw [← hW1]; exact ((Chg.refl S w).alloc _).alloc _
  refine ⟨z + 1, [{ target := .collected z, args := #[] }], W1, { target := .fn (.func gf) lb, args := #[.func (.yield (z + 1)) #[] #[]] }, W1, gf, #[.func (.yield (z + 1)) #[] #[]] ++ lb, W1, ?_, ?_, fun _ _ => trivial, ?_, fun _ => by omega, ?_⟩
  · have h := run_enterLoop_outer (P := P) (w := w) fn a.tmps ps assign body
    rw [hz] at h
    rw [← hW1, hrec]
    exact h
  · unfold resolve rangeCall
    dsimp only
    rw [hg]
    simp [go_sem]
  · simp [invoke, go_sem, eg]
  · have hy : ∀ (W : World) (xs : Array Value), xs.size = ps.size → W.heap[z + 1]? = some (.loop (rec .ready none)) → (Instr.yield (z + 1) xs).run P W = .ok (.round (z + 1) fn ((ps.zip xs).foldl (fun t (p, v) => t.setIfInBounds p v) a.tmps) assign body) W := fun W xs hs h => by
      have h := run_yield (P := P) (args := xs) h (by rw [hrec]; exact hs)
      rw [hrec] at h
      simpa using h
    have hput : ∀ (W : World) (o : Obj) (j : Nat), I j W → I j (W.putObj (z + 1) o) := fun W o j h => hI j _ _ h (chg_putObj o (by omega))
    refine (hseq (z + 1) (fun j W => I j W ∧ z + 2 ≤ W.heap.size ∧ W.heap[z + 1]? = some (.loop (rec .ready none)) ∧ W.heap[z]? = some (.deferred (some []))) (fun W => ∃ c, Ix c W ∧ W.heap[z + 1]? = some (.loop (rec .done (some c))) ∧ W.heap[z]? = some (.deferred (some [])))
      W1 hz1 (fun j W h => ⟨h.1, h.2.1⟩) (fun j W W' h hc => ⟨hI j _ _ h.1 (hc.mono fun _ _ hf => by omega), Nat.le_trans h.2.1 hc.size, (hc.block _ (by have := h.2.1; omega) (fun hf => by omega)).trans h.2.2.1, (hc.block _ (by have := h.2.1; omega) (fun hf => by omega)).trans h.2.2.2⟩) (fun W W' ⟨c, h1, h2, h3⟩ hc => ⟨c, hIx c _ _ h1 (hc.mono fun _ _ hf => by omega), (hc.block _ (Array.getElem?_eq_some_iff.1 h2).1 (fun hf => by omega)).trans h2, (hc.block _ (Array.getElem?_eq_some_iff.1 h3).1 (fun hf => by omega)).trans h3⟩) ⟨hI 0 _ _ h0 (hC1 _), by omega, hL1, hK1⟩ ?hY).mono ?fin
    case hY =>
      rintro j W hj ⟨hij, hsz, hr, hd⟩ hown
      refine ⟨fn, _, assign, body, hy W _ (hps j) hr, roundIn_of_wpIn trivial ?_⟩
      refine wpIn_mono (hbody (z + 1) j W hj hij hown) ?_
      intro e a1 W₁ hq
      cases e <;> try exact hq
      obtain ⟨hk, hs1, hb⟩ := hq
      have hr1 := (hk (z + 1) (by omega) (by omega)).trans hr
      have hd1 := (hk z (by omega) (by omega)).trans hd
      have hbr := run_beginRound (P := P) hr1 (by rw [hrec])
      refine ⟨_, hbr, ?_⟩
      obtain ⟨W2, hW2⟩ : ∃ W2, W₁.putObj (z + 1) (.loop { rec .ready none with state := .busy }) = W2 := ⟨_, rfl⟩
      have hc2 : Chg (fun q => q = z + 1) W₁ W2 := by rw [← hW2]; exact chg_putObj _ rfl
      have hr2 : W2.heap[z + 1]? = some (.loop { rec .ready none with state := .busy }) := by rw [← hW2]; exact World.putObj_heap_same (Array.getElem?_eq_some_iff.1 hr1).1
      have hd2 := (hc2.block z (by omega) (by omega)).trans hd1
      rw [hW2]
      refine wpIn_mono (hb W2 hc2) ?_
      have fin : ∀ (W' : World) (jump : Option Code), KN z (2 + own) W2 W' → ∃ W3, (Instr.endRound (z + 1) jump).run P W' = .ok (.bool jump.isNone) W3 ∧ Chg (fun q => z ≤ q ∧ q < z + 2 + own) W' W3 ∧ KN (z + 2) own W W3 ∧ W3.heap[z + 1]? = some (.loop (rec (if jump.isNone then .ready else .done) jump)) ∧ W3.heap[z]? = some (.deferred (some [])) ∧ z + 2 ≤ W3.heap.size := by
        intro W' jump hk'
        have hr' := (hk' (z + 1) (by omega) (by omega)).trans hr2
        have hl' := (Array.getElem?_eq_some_iff.1 hr').1
        have hend := run_endRound (P := P) jump hr'
        have hcp := fun o => chg_putObj (W := W') (l := z + 1) (S := fun q => q = z + 1) o rfl
        refine ⟨_, hend, chg_putObj _ (by omega), ?_, ?_, ((hcp _).block z (by omega) (by omega)).trans ((hk' z (by omega) (by omega)).trans hd2), Nat.le_trans (by omega) (hcp _).size⟩
        · intro q g1 g2
          rw [show (W'.putObj (z + 1) _).heap[q]? = W'.heap[q]? from World.putObj_heap_other (by omega)]
          rw [hk' q (by omega) (by omega), hc2.block q (by omega) (by omega)]
          exact hk q (by omega) (by omega)
        simp only [hrec]
        exact World.putObj_heap_same hl'
      intro e a' W' hq
      cases e with
      | normal =>
        obtain ⟨hk', hi'⟩ := hq
        obtain ⟨W3, he3, hc3, hkn, hr3, hd3, hs3⟩ := fin W' none hk'
        exact ⟨_, W3, he3, .inl ⟨rfl, ⟨hI _ _ _ hi' hc3, hs3, hr3, hd3⟩, hkn⟩⟩
      | ret =>
        obtain ⟨hk', hi'⟩ := hq
        obtain ⟨W3, he3, hc3, hkn, hr3, hd3, hs3⟩ := fin W' (some .ret) hk'
        exact ⟨_, W3, he3, .inr ⟨rfl, ⟨.ret, hIx _ _ _ hi' hc3, hr3, hd3⟩, hkn⟩⟩
      | exit id =>
        obtain ⟨hk', hi'⟩ := hq
        obtain ⟨W3, he3, hc3, hkn, hr3, hd3, hs3⟩ := fin W' (some (.exit id)) hk'
        exact ⟨_, W3, he3, .inr ⟨rfl, ⟨.exit id, hIx _ _ _ hi' hc3, hr3, hd3⟩, hkn⟩⟩
      | goto t =>
        obtain ⟨hk', hi'⟩ := hq
        obtain ⟨W3, he3, hc3, hkn, hr3, hd3, hs3⟩ := fin W' (some (.goto t)) hk'
        exact ⟨_, W3, he3, .inr ⟨rfl, ⟨.goto t, hIx _ _ _ hi' hc3, hr3, hd3⟩, hkn⟩⟩
      | panic c => exact hq.elim
      | outgrown => exact hq.elim
    case fin =>
      rintro e W2 ⟨⟨v, rfl⟩, (⟨hij, hs, hr, hd⟩ | ⟨c, hix, hr, hd⟩)⟩
      · refine ⟨none, _, by have := run_endLoop (P := P) hr (by rw [hrec]; simp); rw [hrec] at this; exact this, ?_⟩
        exact hdone _ (hput _ _ _ hij) (((chg_putObj (S := fun q => q = z + 1) _ rfl).block z (by omega) (by omega)).trans hd)
      · refine ⟨some c, _, by have := run_endLoop (P := P) hr (by rw [hrec]; simp); rw [hrec] at this; exact this, ?_⟩
        have hlz := (Array.getElem?_eq_some_iff.1 hd).1
        exact hstop c _ (hIx _ _ _ hix (chg_putObj _ (by omega))) (((chg_putObj (S := fun q => q = z + 1) _ rfl).block z hlz (by omega)).trans hd)
theorem own_chgS {S : Nat → Prop} {w w' : World} {B e sz n : Nat} {v : Value} {xs : List Value} (h : w.ownsRow B e sz v n xs) (hc : Chg S w w') (hS : ∀ g, v.ownBlock = some g → ¬ S g) : w'.ownsRow B e sz v n xs := by
  refine ⟨h.1, h.2.imp_right ?_⟩
  rintro ⟨g, cap, cur, rfl, hg, hc1, r⟩
  exact ⟨g, cap, cur, rfl, hg, (hc.block g (Array.getElem?_eq_some_iff.1 hc1).1 (hS g rfl)).trans hc1, r⟩
theorem wpListIn_append_rd {F : Fence} {n : Nat} {P : Program} (w : World) {ops : Array Oper} {rest : List Oper} {o : Oper} {a : Act} {Q : Exit → Act → World → Prop} (hgd : o.guard = none) (s x : Operand) (t : TypeId)
    (ho : o.op = .call { callee := .builtin .append, args := #[s, x], argTypes := #[t, t] })
    (base : Nat) (e : TypeId) (i : TypeInfo) (z : Value) (size bytes : Nat) (ht : P.underlying t = some (.slice e)) (hi : P.info? e = some i) (hz : i.zero = some z)
    (hsize : i.size = size) (hby : i.bytes = bytes) (hzs : z.cells.size = size) (hsz : 0 < size)
    (v : Value) (k : Nat) (xs : List Value) (hs : a.eval s = v) (hown : w.ownsRow base e size v k xs)
    (A : Addr) (m c : Nat) (news : List Value) (hx : a.eval x = .slice (some A) m c) (hl : news.length = m * size) (hr : Rd w (some A) news) (h1 : ∀ u ∈ news, u.oneCell' = true)
    (h63 : k + m ≤ maxLen) (hbytes : (k + m) * bytes ≤ 140737488355328) (hbase : base ≤ w.heap.size)
    (h : ∀ v' w', w'.ownsRow base e size v' (k + m) (xs ++ news) → w.grownBy w' v.ownBlock → wpListIn F n P ops Q rest (a.put o.dst v') w') : wpListIn F n P ops Q (o :: rest) a w :=
  wpListIn_append_own w hgd s x t ho base e i z size bytes ht hi hz hsize hby hzs hsz v k xs hs hown A m c news hx hl hr.addr h1 h63 hbytes hbase fun v' w' h2 h3 _ => h v' w' h2 h3
end Go.Proofs.Ytpmfdlghckfgiaa
set_option linter.unusedVariables false
namespace Go.Proofs.Ytpmfdlghckfgiaa
/-- Each operation waits for earlier ones alone. -/
def regUpB (md : Region.Mode) (ops : Array Oper) : Bool := (List.range ops.size).all fun i => ((ops[i]?).map fun o => o.after.all fun e => !Region.binds md e || decide (e.on < i)).getD true
theorem regUpB_spec {md : Region.Mode} {ops : Array Oper} (h : regUpB md ops = true) {i : Nat} {o : Oper} (ho : ops[i]? = some o) : ∀ e ∈ o.after, Region.binds md e = true → e.on < i := by
  have hi : i < ops.size := (Array.getElem?_eq_some_iff.1 ho).1
  unfold regUpB at h
  rw [List.all_eq_true] at h
  have h1 := h i (List.mem_range.2 hi)
  rw [ho] at h1
  intro e he hb
  simp only [Option.map_some, Option.getD_some] at h1
  have h2 := (Array.all_eq_true'.1 h1) e he
  rw [hb] at h2
  simpa using h2
theorem wpAny_invB {P : Program} {md : Region.Mode} {ops : Array Oper} {Q : Exit → Act → World → Prop} (hup : regUpB md ops = true) (I : (Nat → Bool) → Act → World → Prop)
    (hstep : ∀ f a w i o, ops[i]? = some o → f i = false → (∀ e ∈ o.after, Region.binds md e = true → f e.on = true) → I f a w → wpList P ops (Exit.then (fun a' w' => I (fun k => decide (k = i) || f k) a' w') Q) [o] a w)
    (hdone : ∀ f a w, (∀ i, i < ops.size → f i = true) → I f a w → Q .normal a w) :
    ∀ (fuel : Nat) (listed : Array Bool) (a : Act) (w : World), listed.size = ops.size → ((List.range ops.size).filter fun i => !listed.getD i true).length ≤ fuel → I (fun k => listed.getD k true) a w → wpAny P md ops Q fuel listed a w := by
  have hall : ∀ (listed : Array Bool), listed.size = ops.size → Region.ready md ops listed = [] → ∀ i, i < ops.size → listed.getD i true = true := by
    intro listed hsz hr i
    induction i using Nat.strongRecOn with
    | _ i ih =>
      intro hi
      cases hb : listed.getD i true with
      | true => rfl
      | false =>
        exfalso
        have ho : ops[i]? = some ops[i] := Array.getElem?_eq_getElem hi
        have : i ∈ Region.ready md ops listed := mem_ready.2 ⟨hb, ops[i], ho, fun e he hb2 => by
          have h1 := regUpB_spec hup ho e he hb2
          have h2 := ih e.on h1 (by omega)
          have h3 : e.on < listed.size := by omega
          simp only [Array.getD_eq_getD_getElem?, Array.getElem?_eq_getElem h3, Option.getD_some] at h2 ⊢
          exact h2⟩
        rw [hr] at this
        cases this
  intro fuel
  induction fuel with
  | zero =>
    intro listed a w hsz hc hI
    have hnil : Region.ready md ops listed = [] := by
      cases hr : Region.ready md ops listed with
      | nil => rfl
      | cons x xs =>
        have hx : x ∈ Region.ready md ops listed := by rw [hr]; exact List.mem_cons_self ..
        obtain ⟨h1, o, h2, -⟩ := mem_ready.1 hx
        have h3 : x ∈ (List.range ops.size).filter fun i => !listed.getD i true := List.mem_filter.2 ⟨List.mem_range.2 (Array.getElem?_eq_some_iff.1 h2).1, by rw [h1]; rfl⟩
        have := List.length_pos_of_mem h3
        omega
    exact ⟨hnil, hdone _ a w (hall listed hsz hnil) hI⟩
  | succ fuel ih =>
    intro listed a w hsz hc hI
    refine ⟨fun hr => hdone _ a w (hall listed hsz hr) hI, fun i hi => ?_⟩
    obtain ⟨h1, o, h2, h3⟩ := mem_ready.1 hi
    have hlt : i < ops.size := (Array.getElem?_eq_some_iff.1 h2).1
    refine wpOp_mono (fun a' w' h => ?_) (wpOp_of_list h2 (hstep _ a w i o h2 h1 (fun e he hb => by
      have h4 := h3 e he hb
      have h5 := regUpB_spec hup h2 e he hb
      have h6 : e.on < listed.size := by omega
      simp only [Array.getD_eq_getD_getElem?, Array.getElem?_eq_getElem h6, Option.getD_some] at h4 ⊢
      exact h4) hI))
    have hfn : (fun k => decide (k = i) || listed.getD k true) = fun k => (listed.setIfInBounds i true).getD k true := by
      funext k
      by_cases hk : k = i
      · subst hk
        simp [Array.getD_eq_getD_getElem?, hsz, hlt]
      · rw [getD_set_ne true (fun e => hk e.symm)]
        simp [hk]
    refine ih _ a' w' (by simpa using hsz) ?_ (by rw [← hfn]; exact h)
    have hf : ((List.range ops.size).filter fun k => !(listed.setIfInBounds i true).getD k true) = ((List.range ops.size).filter fun k => !listed.getD k true).filter fun k => !decide (k = i) := by
      rw [List.filter_filter]
      congr 1
      funext k
      rw [← congrFun hfn k]
      cases decide (k = i) <;> simp
    have hmem : i ∈ (List.range ops.size).filter fun k => !listed.getD k true := List.mem_filter.2 ⟨List.mem_range.2 hlt, by rw [h1]; rfl⟩
    have hlt2 : (((List.range ops.size).filter fun k => !listed.getD k true).filter fun k => !decide (k = i)).length < ((List.range ops.size).filter fun k => !listed.getD k true).length :=
      List.length_filter_lt_length_iff_exists.2 ⟨i, hmem, by simp⟩
    rw [hf]
    omega
/-- A region that draws its order: an invariant over what has come up, from the frame and the world at its head. -/
theorem wp_region_invB {P : Program} {ops : Array Oper} {Q : Exit → Act → World → Prop} {id : Nat} {a : Act} {w : World} (hm : P.follows .mixedOrders = true) (hup : regUpB .any ops = true) (I : Act → World → (Nat → Bool) → Act → World → Prop)
    (h0 : I a w (fun k => decide (ops.size ≤ k)) a w.drew)
    (hstep : ∀ f a' w' i o, ops[i]? = some o → f i = false → (∀ e ∈ o.after, Region.binds .any e = true → f e.on = true) → I a w f a' w' → wpList P ops (Exit.then (fun a'' w'' => I a w (fun k => decide (k = i) || f k) a'' w'') Q) [o] a' w')
    (hdone : ∀ f a' w', (∀ i, i < ops.size → f i = true) → I a w f a' w' → Q .normal a' w') : (Code.region id ops true).wp P Q a w := by
  refine wp_region_any hm (wpAny_invB hup (I a w) hstep hdone ops.size _ a _ (by simp) ?_ ?_)
  · exact Nat.le_trans (List.length_filter_le _ _) (by simp)
  · have e : (fun k => (Array.replicate ops.size false).getD k true) = fun k => decide (ops.size ≤ k) := by
      funext k
      by_cases hk : k < ops.size
      · simp [Array.getD_eq_getD_getElem?, hk]
      · simp [Array.getD_eq_getD_getElem?, hk]; omega
    rw [e]
    exact h0
end Go.Proofs.Ytpmfdlghckfgiaa
set_option linter.unusedVariables false
namespace Go.Proofs.Ytpmfdlghckfgiaa
open Go.ChangeShapes Go.WideShapes Go.ChangeAt Go.RowKit

theorem wf_u64 {n : Int} (h : (Lit.int .u64 n).wf = true) : 0 ≤ n ∧ n ≤ 18446744073709551615 := by simpa [Lit.wf, IntKind.min, IntKind.max, IntKind.signed, IntKind.bits] using h
theorem wf_i64 {n : Int} (h : (Lit.int .i64 n).wf = true) : -9223372036854775808 ≤ n ∧ n ≤ 9223372036854775807 := by simpa [Lit.wf, IntKind.min, IntKind.max, IntKind.signed, IntKind.bits] using h
theorem wf_u8 {n : Int} (h : (Lit.int .u8 n).wf = true) : 0 ≤ n ∧ n ≤ 255 := by simpa [Lit.wf, IntKind.min, IntKind.max, IntKind.signed, IntKind.bits] using h

section
variable {H : Type} {enc : TypeId × Value → H} {P : Program} {W : World} {base : Nat} {spare : Nat → Bool} {held : Bool} {t e : TypeId} {A : Option Addr} {len cap : Nat} {d : DataW H} {p : List MemPlace}
/-- a slice of integers that came in, its elements -/
theorem ints_of {k : IntKind} (ht : P.underlying t = some (.slice e)) (he : P.underlying e = some (.int k)) (hc : P.cellsOf e = 1) (h : DataW.Trod enc P W base spare held t (.slice A len cap) d p) :
    ∃ zs : List Int, zs.length = len ∧ (∀ n ∈ zs, (Lit.int k n).wf = true) ∧ Sl W A cap (zs.map (Value.int k)) := by
  obtain ⟨fuel, hf⟩ := h
  rcases open_ints ht he hc hf with ⟨hcs, _⟩ | ⟨x, l, c, zs, hcs, _, hl, hm, hz, _, hcell, hwz⟩
  · simp [Value.cells] at hcs
    obtain ⟨rfl, rfl, rfl⟩ := hcs
    exact ⟨[], rfl, by simp, Sl.nil_ W⟩
  · simp [Value.cells] at hcs
    obtain ⟨rfl, rfl, rfl⟩ := hcs
    have hzl : len ≤ zs.length := by rw [hz]; split <;> omega
    refine ⟨zs.take len, by rw [List.length_take]; omega, fun n hn => hwz n (List.mem_of_mem_take hn), ⟨by simp; omega, hm, (fun h => by cases h), fun j u hj => ?_⟩⟩
    rw [List.getElem?_map, List.getElem?_take] at hj
    split at hj
    · rename_i hjl
      have hc := hcell j (by omega)
      rw [List.getElem?_eq_getElem (by omega)] at hj
      simp only [Option.map_some, Option.some.injEq] at hj
      rw [List.getD_eq_getElem?_getD, List.getElem?_eq_getElem (by omega), Option.getD_some, hj] at hc
      have hlt := World.block_lt_of_cell? W _ hc
      obtain ⟨b, off, spot⟩ := x
      cases spot with
      | none => exact ⟨b, off, rfl, by rwa [addr_add] at hlt, by rwa [addr_add] at hc⟩
      | some s =>
        have h0 := hcell 0 (by omega)
        simp [World.cell?, Addr.add] at h0
        split at h0 <;> simp at h0
    · cases hj
/-- bytes that came in -/
theorem bytes_of (ht : P.underlying t = some (.slice e)) (he : P.underlying e = some (.int .u8)) (hc : P.cellsOf e = 1) (h : DataW.Trod enc P W base spare held t (.slice A len cap) d p) :
    ∃ bs : List UInt8, bs.length = len ∧ Sl W A cap (bs.map bv) := by
  obtain ⟨zs, hl, hw, hs⟩ := ints_of ht he hc h
  refine ⟨zs.map fun z => b8 z.toNat, by simpa using hl, ?_⟩
  have e : (zs.map fun z => b8 z.toNat).map bv = zs.map (Value.int .u8) := by
    rw [List.map_map]
    apply List.map_congr_left
    intro z hz
    have := wf_u8 (hw z hz)
    simp only [Function.comp]
    rw [bv_b8 _ (by omega), Int.toNat_of_nonneg this.1]
  rw [e]; exact hs
end
end Go.Proofs.Ytpmfdlghckfgiaa
set_option linter.unusedVariables false
namespace Go.Proofs.Ytpmfdlghckfgiaa
open Go.ChangeShapes Go.WideShapes Go.ChangeAt Go.RowKit

/-- Cells of type t that read as data are enc a for some a that is ok. -/
def Opens (P : Program) (W : World) (t : TypeId) {α : Type} (enc : α → List Value) (ok : α → Prop) : Prop :=
  ∀ (H : Type) (en : TypeId × Value → H) (base : Nat) (spare : Nat → Bool) (held : Bool) (fuel : Nat) (cs : List Value) (x : DataW H × List MemPlace),
    DataW.trod en P W base spare held fuel t cs = some x → ∃ a : α, cs = enc a ∧ ok a
/-- A slice of n elements of so many cells each. -/
structure SlN (w : World) (A : Option Addr) (n c size : Nat) (flat : List Value) : Prop where
  len : flat.length = n * size
  cap : n ≤ c
  small : c ≤ 9223372036854775807
  nil0 : A = none → c = 0
  rd : Rd w A flat
theorem SlN.below {w w' : World} {A : Option Addr} {n c size : Nat} {xs : List Value} (h : SlN w A n c size xs) (hb : Below w.heap.size w w') : SlN w' A n c size xs := ⟨h.len, h.cap, h.small, h.nil0, h.rd.below hb⟩
/-- A slice value: where it lies, its capacity, what it holds. -/
structure SlV (α : Type) where
  A : Option Addr
  c : Nat
  xs : List α
section
variable {P : Program} {W : World} {t e : TypeId} {α β : Type}
theorem Opens.use {enc : α → List Value} {ok : α → Prop} (ho : Opens P W t enc ok) {H : Type} {en : TypeId × Value → H} {base : Nat} {spare : Nat → Bool} {held : Bool} {v : Value} {d : DataW H} {p : List MemPlace}
    (h : DataW.Trod en P W base spare held t v d p) : ∃ a, v.cells.toList = enc a ∧ ok a := let ⟨_, hf⟩ := h; ho _ _ _ _ _ _ _ _ hf
theorem opens_int {k : IntKind} (ht : P.underlying t = some (.int k)) : Opens P W t (fun n : Int => [.int k n]) (fun n => (Lit.int k n).wf = true) :=
  fun H en base spare held fuel cs x h => let ⟨n, hc, _, hw⟩ := DataW.trod_int ht h; ⟨n, hc, hw⟩
theorem opens_string (ht : P.underlying t = some .string) : Opens P W t (fun s : ByteArray => [.string s]) (fun s => s.size ≤ 9223372036854775807) :=
  fun H en base spare held fuel cs x h => let ⟨n, hc, _, hw⟩ := DataW.trod_string ht h; ⟨n, hc, hw⟩
theorem Opens.imp {enc : α → List Value} {ok ok' : α → Prop} (h : Opens P W t enc ok) (hi : ∀ a, ok a → ok' a) : Opens P W t enc ok' :=
  fun H en base spare held fuel cs x hx => let ⟨a, hc, ho⟩ := h H en base spare held fuel cs x hx; ⟨a, hc, hi a ho⟩
/-- Another Lean type for the same cells. -/
theorem Opens.map {enc : α → List Value} {ok : α → Prop} {enc' : β → List Value} {ok' : β → Prop} (h : Opens P W t enc ok) (f : α → β) (hi : ∀ a, ok a → enc a = enc' (f a) ∧ ok' (f a)) : Opens P W t enc' ok' :=
  fun H en base spare held fuel cs x hx => let ⟨a, hc, ho⟩ := h H en base spare held fuel cs x hx; ⟨f a, hc.trans (hi a ho).1, (hi a ho).2⟩
theorem flatMap_get {γ : Type} (enc : γ → List Value) (size : Nat) : ∀ (xs : List γ) (i j : Nat) (hi : i < xs.length), (∀ x ∈ xs, (enc x).length = size) → j < size →
    (xs.flatMap enc)[i * size + j]? = (enc xs[i])[j]?
  | [], i, _, hi, _, _ => by simp at hi
  | x :: xs, 0, j, _, h, hj => by
    rw [List.flatMap_cons, Nat.zero_mul, Nat.zero_add, List.getElem?_append_left (by rw [h x (by simp)]; exact hj)]; rfl
  | x :: xs, i + 1, j, hi, h, hj => by
    have hx := h x (by simp)
    rw [List.flatMap_cons, List.getElem?_append_right (by rw [hx, Nat.add_mul]; omega), hx,
      show (i + 1) * size + j - size = i * size + j from by rw [Nat.add_mul]; omega,
      flatMap_get enc size xs i j (by simpa using hi) (fun y hy => h y (by simp [hy])) hj]
    simp
theorem flatMap_length {γ : Type} (enc : γ → List Value) (size : Nat) : ∀ (xs : List γ), (∀ x ∈ xs, (enc x).length = size) → (xs.flatMap enc).length = xs.length * size
  | [], _ => by simp
  | x :: xs, h => by rw [List.flatMap_cons, List.length_append, h x (by simp), flatMap_length enc size xs (fun y hy => h y (by simp [hy])), List.length_cons, Nat.add_mul]; omega
theorem list_choose {γ : Type} {n : Nat} {p : Nat → γ → Prop} (h : ∀ i, i < n → ∃ a, p i a) : ∃ l : List γ, l.length = n ∧ ∀ i (hi : i < l.length), p i l[i] := by
  induction n with
  | zero => exact ⟨[], rfl, fun i hi => by simp at hi⟩
  | succ n ih =>
    obtain ⟨l, hl, hp⟩ := ih fun i hi => h i (by omega)
    obtain ⟨a, ha⟩ := h n (by omega)
    refine ⟨l ++ [a], by simp [hl], fun i hi => ?_⟩
    by_cases hin : i < l.length
    · rw [List.getElem_append_left hin]; exact hp i hin
    · obtain rfl : i = n := by simp [hl] at hi; omega
      rw [List.getElem_append_right (by omega)]; simpa [hl] using ha
theorem opens_slice {size : Nat} {enc : α → List Value} {ok : α → Prop} (ht : P.underlying t = some (.slice e)) (hc : P.cellsOf e = size) (hsz : 0 < size) (hlen : ∀ a, (enc a).length = size) (he : Opens P W e enc ok) :
    Opens P W t (fun s : SlV α => [.slice s.A s.xs.length s.c]) (fun s => (∀ x ∈ s.xs, ok x) ∧ SlN W s.A s.xs.length s.c size (s.xs.flatMap enc)) := by
  intro H en base spare held fuel cs x h
  rcases DataW.trod_slice ht h with ⟨rfl, _⟩ | ⟨a, len, cap, elems, rest, n, _, rfl, _, hb, hl, hm, hel, hat, _, _⟩
  · exact ⟨⟨none, 0, []⟩, rfl, by simp, ⟨by simp, by simp, by simp, fun _ => rfl, fun k u hk => by simp at hk⟩⟩
  · have each : ∀ i, i < len → ∃ v : α, ok v ∧ ∀ j, j < size → W.cell? (a.add (i * size + j)) = (enc v)[j]? := by
      intro i hi
      have hh := hat i hi
      rw [List.getElem?_eq_getElem (by omega), hc, Option.bind_eq_some_iff] at hh
      obtain ⟨cs', hcs, hy⟩ := hh
      obtain ⟨v, hv, hok⟩ := he _ _ _ _ _ _ _ _ hy
      obtain ⟨_, hcl, hcell⟩ := World.cells?_some hcs
      refine ⟨v, hok, fun j hj => ?_⟩
      have := hcell j hj
      rw [hv] at this
      rw [← this]
      congr 1
      unfold Addr.add
      by_cases h1 : i * size = 0 <;> by_cases h2 : j = 0 <;> simp [h1, h2, Nat.add_assoc] <;> omega
    obtain ⟨l, hll, hp⟩ := list_choose each
    have hle : ∀ x ∈ l, (enc x).length = size := fun x _ => hlen x
    refine ⟨⟨some a, cap, l⟩, by show _ = [Value.slice (some a) l.length cap]; rw [hll], ?_, ⟨flatMap_length enc size l hle, (by show l.length ≤ cap; rw [hll]; exact hl), hm, (fun h => by cases h), fun k u hk => ?_⟩⟩
    · intro x hx
      obtain ⟨i, hi, rfl⟩ := List.getElem_of_mem hx
      exact (hp i hi).1
    · have hk2 := (List.getElem?_eq_some_iff.1 hk).1
      rw [flatMap_length enc size l hle] at hk2
      have hi : k / size < l.length := Nat.div_lt_of_lt_mul (by rw [Nat.mul_comm]; exact hk2)
      have hj : k % size < size := Nat.mod_lt _ hsz
      have hkk : k / size * size + k % size = k := by rw [Nat.mul_comm]; exact Nat.div_add_mod k size
      have g := flatMap_get enc size l (k / size) (k % size) hi hle hj
      rw [hkk, hk] at g
      have hcell := (hp (k / size) hi).2 (k % size) hj
      rw [hkk, ← g] at hcell
      have hlt := World.block_lt_of_cell? W _ hcell
      obtain ⟨b, off, spot⟩ := a
      cases spot with
      | none => exact ⟨b, off, rfl, by rwa [addr_add] at hlt, by rwa [addr_add] at hcell⟩
      | some s =>
        have hl0 : 0 < l.length := Nat.lt_of_le_of_lt (Nat.zero_le _) hi
        have h0 := (hp 0 hl0).2 0 hsz
        have h1 : ∃ u, (enc (l[0]'hl0))[0]? = some u := ⟨_, List.getElem?_eq_getElem (by rw [hlen]; exact hsz)⟩
        obtain ⟨u, hu⟩ := h1
        rw [hu] at h0
        simp [World.cell?, Addr.add] at h0
        split at h0 <;> simp at h0
end
end Go.Proofs.Ytpmfdlghckfgiaa
set_option linter.unusedVariables false
namespace Go.Proofs.Ytpmfdlghckfgiaa
open Go.RowKit
end Go.Proofs.Ytpmfdlghckfgiaa
set_option linter.unusedVariables false
namespace Go.Proofs.Ytpmfdlghckfgiaa
open Go.RowKit
theorem putN_size (n : Nat) : (putN n).length = sizeN n := by
  induction n using Nat.strongRecOn with
  | _ n ih =>
    rw [sizeN]
    by_cases h : n < 128
    · rw [if_pos h, putN_small h]; rfl
    · rw [if_neg h, putN_big h, List.length_cons, ih (n / 128) (by omega)]; omega
end Go.Proofs.Ytpmfdlghckfgiaa
set_option linter.unusedVariables false
namespace Go.Proofs.Ytpmfdlghckfgiaa
open Go.RowKit
/-- What is short is written as it stood. -/
theorem put_getF : ∀ (b : List UInt8) (i acc : Nat), i ≤ 9 → acc < 128 ^ i → (M.getF i acc b).2.2 = 0 → 
    ∃ v, (M.getF i acc b).1 = acc + v * 128 ^ i ∧ i + sizeN v ≤ (M.getF i acc b).2.1 ∧ (i + sizeN v = (M.getF i acc b).2.1 → putN v = b.take ((M.getF i acc b).2.1 - i))
  | [], i, acc, _, _, h => by simp [M.getF] at h
  | x :: r, i, acc, hi, ha, h => by
    have hx := x.toNat_lt
    rw [M.getF] at h ⊢
    by_cases h9 : i = 9
    · subst h9
      rw [if_pos rfl] at h ⊢
      by_cases h1 : 128 ≤ x.toNat
      · rw [if_pos h1] at h; simp at h
      · by_cases h2 : 1 < x.toNat
        · rw [if_neg h1, if_pos h2] at h; simp at h
        · rw [if_neg h1, if_neg h2]
          refine ⟨x.toNat, rfl, by rw [sizeN, if_pos (by omega)]; simp, fun _ => ?_⟩
          rw [putN_small (by omega), b8_self]; rfl
    · rw [if_neg h9] at h ⊢
      by_cases h1 : x.toNat < 128
      · rw [if_pos h1]
        refine ⟨x.toNat, rfl, by rw [sizeN, if_pos h1]; simp, fun _ => ?_⟩
        rw [putN_small h1, b8_self]; simp
      · rw [if_neg h1] at h ⊢
        obtain ⟨v, hv, hs, hp⟩ := put_getF r (i + 1) _ (by omega) (M.get_acc ha hx) h
        by_cases hv0 : v = 0
        · subst hv0
          refine ⟨x.toNat - 128, by rw [hv]; simp, ?_, fun he => ?_⟩
          · rw [sizeN, if_pos (by omega)]; rw [sizeN, if_pos (by omega)] at hs; omega
          · rw [sizeN, if_pos (by omega)] at he hs; omega
        · have hsz : sizeN (x.toNat - 128 + v * 128) = 1 + sizeN v := by
            rw [sizeN, if_neg (by omega), show (x.toNat - 128 + v * 128) / 128 = v from by omega]
          refine ⟨x.toNat - 128 + v * 128, ?_, by rw [hsz]; omega, fun he => ?_⟩
          · rw [hv, Nat.pow_succ, Nat.add_mul, Nat.mul_assoc, Nat.mul_comm 128 (128 ^ i)]; omega
          · rw [hsz] at he
            have := hp (by omega)
            rw [putN_big (by omega), show (x.toNat - 128 + v * 128) / 128 = v from by omega, this, show (x.toNat - 128 + v * 128) % 128 + 128 = x.toNat from by omega, b8_self]
            have hk := (M.getF_facts r (i + 1) _ (by omega) (M.get_acc ha hx)).1 h
            obtain ⟨j, hj⟩ : ∃ j, (M.getF (i + 1) (acc + (x.toNat - 128) * 128 ^ i) r).2.1 - i = j + 1 := ⟨(M.getF (i + 1) (acc + (x.toNat - 128) * 128 ^ i) r).2.1 - i - 1, by omega⟩
            rw [hj, List.take_succ_cons, show (M.getF (i + 1) (acc + (x.toNat - 128) * 128 ^ i) r).2.1 - (i + 1) = j from by omega]
end Go.Proofs.Ytpmfdlghckfgiaa
set_option linter.unusedVariables false
namespace Go.Proofs.Ytpmfdlghckfgiaa
open Go.RowKit
end Go.Proofs.Ytpmfdlghckfgiaa
set_option linter.unusedVariables false
namespace Go.Proofs.Ytpmfdlghckfgiaa
open Go.RowKit
def flat (ns : List Nat) : List UInt8 := ns.flatMap putN
end Go.Proofs.Ytpmfdlghckfgiaa
set_option linter.unusedVariables false
namespace Go.Proofs.Ytpmfdlghckfgiaa
open Go.RowKit
end Go.Proofs.Ytpmfdlghckfgiaa
set_option linter.unusedVariables false
namespace Go.Proofs.Ytpmfdlghckfgiaa
open Go.RowKit
theorem spl_ok_inv {n : Int} (h : (spl n).2.2 = 0) : 1 ≤ n / 8 ∧ n / 8 ≤ 536870911 ∧ wireB (n % 8) = true ∧ spl n = (n / 8, n % 8, 0) := by
  unfold spl at h ⊢
  split
  · rename_i h'; rw [if_pos h'] at h; simp at h
  · rename_i h'; rw [if_neg h'] at h
    split
    · rename_i h''; rw [if_pos h''] at h; simp at h
    · rename_i h''; exact ⟨by omega, by omega, by simpa using h'', rfl⟩
theorem mk_spl {n : Int} (h : (spl n).2.2 = 0) : mk (spl n).1 (spl n).2.1 = (n, 0) := by
  obtain ⟨h1, h2, hw, he⟩ := spl_ok_inv h
  rw [he, mk_ok h1 h2 hw]
  congr 1; omega
end Go.Proofs.Ytpmfdlghckfgiaa
set_option linter.unusedVariables false
namespace Go.Proofs.Ytpmfdlghckfgiaa
open Go.RowKit
theorem SlN.of_own {w : World} {base e size n : Nat} {v : Value} {xs : List Value} (hsz : 0 < size) (h : w.ownsRow base e size v n xs) : ∃ A c, v = .slice A n c ∧ SlN w A n c size xs := by
  rcases h.2 with ⟨rfl, rfl⟩ | ⟨g, cap, cur, rfl, hb, hg, hnc, hcm, hcs, htake⟩
  · have hx : xs = [] := List.eq_nil_of_length_eq_zero (by simpa using h.1)
    subst hx
    exact ⟨none, 0, rfl, ⟨by simp, by omega, by omega, fun _ => rfl, Rd.nil_ w _⟩⟩
  · refine ⟨_, cap, rfl, ⟨h.1, hnc, hcm, (fun h => by cases h), fun k u hk => ⟨g, 0, rfl, (Array.getElem?_eq_some_iff.1 hg).1, ?_⟩⟩⟩
    have := h.cells (g := g) rfl k u hk
    rwa [addr_add] at this
end Go.Proofs.Ytpmfdlghckfgiaa
set_option linter.unusedVariables false
namespace Go.Proofs.Ytpmfdlghckfgiaa
theorem wpOpIn_of_list {F : Fence} {n : Nat} {P : Program} {ops : Array Oper} {Q : Exit → Act → World → Prop} {i : Nat} {o : Oper} {K : Act → World → Prop} {a : Act} {w : World} (ho : ops[i]? = some o) (h : wpListIn F n P ops (Exit.then K Q) [o] a w) : wpOpIn F n P ops Q i K a w := by
  unfold wpOpIn
  simp only [ho]
  unfold wpListIn at h
  split
  · rename_i hw
    simp only [hw, if_true] at h
    unfold Oper.wpIn at *
    refine ⟨h.1, ?_⟩
    have h := h.2
    generalize (o.semAt F.round a.eval).run P w = r at *
    cases r with
    | ok x w' =>
      cases x <;> simp only [Oper.uponIn] at h ⊢ <;>
        first
          | exact h
          | exact ⟨h.1, CallsIn.mono h.2 (fun e w'' he => by cases e <;> exact he)⟩
          | exact ⟨h.1, RowsIn.mono h.2 (fun _ _ he => he)⟩
          | exact ⟨h.1, RoundIn.mono h.2 (fun e w'' he => by cases e <;> exact he)⟩
    | halt x w' => cases x <;> simp only [Oper.uponIn] at h ⊢ <;> exact h
  · rename_i hw
    simp only [hw] at h
    exact h
theorem wpAnyIn_invB {F : Fence} {n : Nat} {P : Program} {md : Region.Mode} {ops : Array Oper} {Q : Exit → Act → World → Prop} (hup : regUpB md ops = true) (I : (Nat → Bool) → Act → World → Prop)
    (hstep : ∀ f a w i o, ops[i]? = some o → f i = false → (∀ e ∈ o.after, Region.binds md e = true → f e.on = true) → I f a w → wpListIn F n P ops (Exit.then (fun a' w' => I (fun k => decide (k = i) || f k) a' w') Q) [o] a w)
    (hdone : ∀ f a w, (∀ i, i < ops.size → f i = true) → I f a w → Q .normal a w) :
    ∀ (fuel : Nat) (listed : Array Bool) (a : Act) (w : World), listed.size = ops.size → ((List.range ops.size).filter fun i => !listed.getD i true).length ≤ fuel → I (fun k => listed.getD k true) a w → wpAnyIn F n P md ops Q fuel listed a w := by
  have hall : ∀ (listed : Array Bool), listed.size = ops.size → Region.ready md ops listed = [] → ∀ i, i < ops.size → listed.getD i true = true := by
    intro listed hsz hr i
    induction i using Nat.strongRecOn with
    | _ i ih =>
      intro hi
      cases hb : listed.getD i true with
      | true => rfl
      | false =>
        exfalso
        have ho : ops[i]? = some ops[i] := Array.getElem?_eq_getElem hi
        have : i ∈ Region.ready md ops listed := mem_ready.2 ⟨hb, ops[i], ho, fun e he hb2 => by
          have h1 := regUpB_spec hup ho e he hb2
          have h2 := ih e.on h1 (by omega)
          have h3 : e.on < listed.size := by omega
          simp only [Array.getD_eq_getD_getElem?, Array.getElem?_eq_getElem h3, Option.getD_some] at h2 ⊢
          exact h2⟩
        rw [hr] at this
        cases this
  intro fuel
  induction fuel with
  | zero =>
    intro listed a w hsz hc hI
    have hnil : Region.ready md ops listed = [] := by
      cases hr : Region.ready md ops listed with
      | nil => rfl
      | cons x xs =>
        have hx : x ∈ Region.ready md ops listed := by rw [hr]; exact List.mem_cons_self ..
        obtain ⟨h1, o, h2, -⟩ := mem_ready.1 hx
        have h3 : x ∈ (List.range ops.size).filter fun i => !listed.getD i true := List.mem_filter.2 ⟨List.mem_range.2 (Array.getElem?_eq_some_iff.1 h2).1, by rw [h1]; rfl⟩
        have := List.length_pos_of_mem h3
        omega
    exact ⟨hnil, hdone _ a w (hall listed hsz hnil) hI⟩
  | succ fuel ih =>
    intro listed a w hsz hc hI
    refine ⟨fun hr => hdone _ a w (hall listed hsz hr) hI, fun i hi => ?_⟩
    obtain ⟨h1, o, h2, h3⟩ := mem_ready.1 hi
    have hlt : i < ops.size := (Array.getElem?_eq_some_iff.1 h2).1
    refine wpOpIn_mono (fun a' w' h => ?_) (wpOpIn_of_list h2 (hstep _ a w i o h2 h1 (fun e he hb => by
      have h4 := h3 e he hb
      have h5 := regUpB_spec hup h2 e he hb
      have h6 : e.on < listed.size := by omega
      simp only [Array.getD_eq_getD_getElem?, Array.getElem?_eq_getElem h6, Option.getD_some] at h4 ⊢
      exact h4) hI))
    have hfn : (fun k => decide (k = i) || listed.getD k true) = fun k => (listed.setIfInBounds i true).getD k true := by
      funext k
      by_cases hk : k = i
      · subst hk
        simp [Array.getD_eq_getD_getElem?, hsz, hlt]
      · rw [getD_set_ne true (fun e => hk e.symm)]
        simp [hk]
    refine ih _ a' w' (by simpa using hsz) ?_ (by rw [← hfn]; exact h)
    have hf : ((List.range ops.size).filter fun k => !(listed.setIfInBounds i true).getD k true) = ((List.range ops.size).filter fun k => !listed.getD k true).filter fun k => !decide (k = i) := by
      rw [List.filter_filter]
      congr 1
      funext k
      rw [← congrFun hfn k]
      cases decide (k = i) <;> simp
    have hmem : i ∈ (List.range ops.size).filter fun k => !listed.getD k true := List.mem_filter.2 ⟨List.mem_range.2 hlt, by rw [h1]; rfl⟩
    have hlt2 : (((List.range ops.size).filter fun k => !listed.getD k true).filter fun k => !decide (k = i)).length < ((List.range ops.size).filter fun k => !listed.getD k true).length :=
      List.length_filter_lt_length_iff_exists.2 ⟨i, hmem, by simp⟩
    rw [hf]
    omega
/-- A region that draws its order: an invariant over what has come up, from the frame and the world at its head. -/
theorem wpIn_region_invB {F : Fence} {n : Nat} {P : Program} {ops : Array Oper} {Q : Exit → Act → World → Prop} {id : Nat} {a : Act} {w : World} (hm : P.follows .mixedOrders = true) (hup : regUpB .any ops = true) (I : Act → World → (Nat → Bool) → Act → World → Prop)
    (h0 : I a w (fun k => decide (ops.size ≤ k)) a w.drew)
    (hstep : ∀ f a' w' i o, ops[i]? = some o → f i = false → (∀ e ∈ o.after, Region.binds .any e = true → f e.on = true) → I a w f a' w' → wpListIn F n P ops (Exit.then (fun a'' w'' => I a w (fun k => decide (k = i) || f k) a'' w'') Q) [o] a' w')
    (hdone : ∀ f a' w', (∀ i, i < ops.size → f i = true) → I a w f a' w' → Q .normal a' w') : (Code.region id ops true).wpIn F n P Q a w := by
  refine wpIn_region_any hm (wpAnyIn_invB hup (I a w) hstep hdone ops.size _ a _ (by simp) ?_ ?_)
  · exact Nat.le_trans (List.length_filter_le _ _) (by simp)
  · have e : (fun k => (Array.replicate ops.size false).getD k true) = fun k => decide (ops.size ≤ k) := by
      funext k
      by_cases hk : k < ops.size
      · simp [Array.getD_eq_getD_getElem?, hk]
      · simp [Array.getD_eq_getD_getElem?, hk]; omega
    rw [e]
    exact h0
end Go.Proofs.Ytpmfdlghckfgiaa
set_option linter.unusedVariables false
namespace Go.Proofs.Ytpmfdlghckfgiaa
/-- A field of a kind, and the first version that has it. -/
structure SRow where
  kind : Nat
  since : Nat
  num : Nat
  typ : Nat
  slot : Nat
deriving DecidableEq, Inhabited
def ROWS : List SRow := [⟨1, 1, 1, 1, 0⟩, ⟨1, 1, 2, 1, 1⟩, ⟨1, 1, 3, 7, 0⟩, ⟨2, 1, 1, 1, 0⟩, ⟨2, 1, 2, 6, 1⟩, ⟨2, 2, 3, 7, 0⟩, ⟨3, 1, 1, 7, 0⟩, ⟨3, 1, 2, 9, 1⟩, ⟨3, 3, 3, 4, 0⟩, ⟨4, 1, 1, 7, 0⟩, ⟨4, 1, 2, 2, 0⟩, ⟨4, 2, 3, 7, 1⟩, ⟨4, 3, 4, 10, 0⟩, ⟨5, 1, 1, 2, 0⟩, ⟨5, 1, 2, 1, 1⟩, ⟨5, 1, 3, 7, 0⟩, ⟨5, 1, 4, 1, 2⟩, ⟨5, 1, 5, 4, 3⟩, ⟨5, 2, 6, 2, 4⟩, ⟨5, 3, 7, 10, 0⟩, ⟨6, 1, 1, 2, 0⟩, ⟨6, 1, 2, 1, 1⟩, ⟨6, 1, 3, 1, 2⟩, ⟨6, 1, 4, 4, 3⟩, ⟨6, 1, 5, 1, 4⟩, ⟨6, 2, 6, 8, 0⟩, ⟨6, 3, 7, 3, 5⟩, ⟨7, 1, 1, 2, 0⟩, ⟨7, 2, 2, 8, 0⟩, ⟨8, 2, 1, 2, 0⟩, ⟨9, 1, 1, 2, 0⟩, ⟨9, 1, 2, 1, 1⟩, ⟨9, 1, 3, 1, 2⟩, ⟨9, 2, 4, 10, 0⟩, ⟨9, 3, 5, 5, 3⟩, ⟨9, 3, 6, 3, 4⟩, ⟨10, 1, 1, 1, 0⟩, ⟨10, 1, 2, 8, 0⟩, ⟨10, 2, 3, 2, 1⟩, ⟨10, 3, 4, 6, 2⟩]
def rowAt (j : Nat) : SRow := ROWS.getD j default
theorem rowAt_mem (j : Nat) (h : j < 40) : rowAt j ∈ ROWS := by
  have h2 : j < ROWS.length := h
  unfold rowAt
  rw [List.getD_eq_getElem?_getD, List.getElem?_eq_getElem h2]
  exact List.getElem_mem h2
theorem rows_all (p : SRow → Bool) (h : ROWS.all p = true) (j : Nat) (hj : j < 40) : p (rowAt j) = true := List.all_eq_true.1 h _ (rowAt_mem j hj)
/-- What a row may be. -/
theorem rowAt_ok (j : Nat) (hj : j < 40) : 1 ≤ (rowAt j).kind ∧ (rowAt j).kind ≤ 10 ∧ 1 ≤ (rowAt j).since ∧ (rowAt j).since ≤ 3 ∧ 1 ≤ (rowAt j).num ∧ (rowAt j).num ≤ 7 ∧ 1 ≤ (rowAt j).typ ∧ (rowAt j).typ ≤ 10 ∧ (rowAt j).slot ≤ 5 := by
  have h := rows_all (fun r => decide (1 ≤ r.kind ∧ r.kind ≤ 10 ∧ 1 ≤ r.since ∧ r.since ≤ 3 ∧ 1 ≤ r.num ∧ r.num ≤ 7 ∧ 1 ≤ r.typ ∧ r.typ ≤ 10 ∧ r.slot ≤ 5)) (by decide) j hj
  simpa using h
/-- The fields that a version has. -/
def kn (v : Int) : List SRow := if 3 < v then [] else ROWS.filter fun r => decide ((r.since : Int) ≤ v)
/-- How many of the first rows a version has. -/
def cnt (v : Int) (j : Nat) : Nat := ((ROWS.take j).filter fun r => decide ((r.since : Int) ≤ v)).length
theorem take_row (j : Nat) (hj : j < 40) : ROWS.take (j + 1) = ROWS.take j ++ [rowAt j] := by
  have h2 : j < ROWS.length := hj
  rw [List.take_succ_eq_append_getElem h2]
  congr 2
  unfold rowAt
  rw [List.getD_eq_getElem?_getD, List.getElem?_eq_getElem h2]
  rfl
theorem cnt_has (v : Int) (j : Nat) (hj : j < 40) (h : ((rowAt j).since : Int) ≤ v) : cnt v (j + 1) = cnt v j + 1 := by
  unfold cnt
  rw [take_row j hj, List.filter_append, List.filter_cons_of_pos (by simpa using h), List.length_append]
  rfl
theorem cnt_not (v : Int) (j : Nat) (hj : j < 40) (h : ¬ ((rowAt j).since : Int) ≤ v) : cnt v (j + 1) = cnt v j := by
  unfold cnt
  rw [take_row j hj, List.filter_append, List.filter_cons_of_neg (by simpa using h), List.filter_nil, List.append_nil]
theorem kn_in (v : Int) (hv : ¬ 3 < v) : kn v = ROWS.filter fun r => decide ((r.since : Int) ≤ v) := by unfold kn; rw [if_neg hv]
theorem kn_out (v : Int) (hv : 3 < v) : kn v = [] := by unfold kn; rw [if_pos hv]
theorem cnt_all (v : Int) (hv : ¬ 3 < v) : cnt v 40 = (kn v).length := by
  unfold cnt
  rw [kn_in v hv]
  rfl
theorem kn_split (v : Int) (hv : ¬ 3 < v) (j : Nat) (hj : j < 40) (h : ((rowAt j).since : Int) ≤ v) : (kn v)[cnt v j]? = some (rowAt j) := by
  have hsp : ROWS = ROWS.take j ++ (rowAt j :: ROWS.drop (j + 1)) := by
    have h1 := List.take_append_drop (j + 1) ROWS
    rw [take_row j hj, List.append_assoc] at h1
    exact h1.symm
  have h2 : kn v = (ROWS.take j).filter (fun r => decide ((r.since : Int) ≤ v)) ++ (rowAt j :: (ROWS.drop (j + 1)).filter fun r => decide ((r.since : Int) ≤ v)) := by
    rw [kn_in v hv]
    conv => lhs; rw [hsp]
    rw [List.filter_append, List.filter_cons_of_pos (by simpa using h)]
  rw [h2]
  unfold cnt
  rw [List.getElem?_append_right (Nat.le_refl _)]
  simp
theorem cnt_lt (v : Int) (hv : ¬ 3 < v) (j : Nat) (hj : j < 40) (h : ((rowAt j).since : Int) ≤ v) : cnt v j < (kn v).length := (List.getElem?_eq_some_iff.1 (kn_split v hv j hj h)).1
theorem kn_mem (v : Int) {r : SRow} (h : r ∈ kn v) : r ∈ ROWS := by
  unfold kn at h
  split at h
  · simp at h
  · exact (List.mem_filter.1 h).1
theorem kn_len (v : Int) : (kn v).length ≤ 40 := by
  unfold kn
  split
  · simp
  · exact List.length_filter_le _ _
/-- The fields of a kind that a version has. -/
def ofL (k : Int) (v : Int) : List SRow := (kn v).filter fun r => decide ((r.kind : Int) = k)
end Go.Proofs.Ytpmfdlghckfgiaa
set_option linter.unusedVariables false
namespace Go.Proofs.Ytpmfdlghckfgiaa
open Go.RowKit Go.Shelf
attribute [local go_sem] Oper.semAt_some
def LIT : Array Value := #[.int .u8 1, .int .i64 1, .int .i64 1, .int .i64 1, .int .i64 0, .int .u8 1, .int .i64 1, .int .i64 2, .int .i64 1, .int .i64 1, .int .u8 1, .int .i64 1, .int .i64 3, .int .i64 7, .int .i64 0, .int .u8 2, .int .i64 1, .int .i64 1, .int .i64 1, .int .i64 0, .int .u8 2, .int .i64 1, .int .i64 2, .int .i64 6, .int .i64 1, .int .u8 2, .int .i64 2, .int .i64 3, .int .i64 7, .int .i64 0, .int .u8 3, .int .i64 1, .int .i64 1, .int .i64 7, .int .i64 0, .int .u8 3, .int .i64 1, .int .i64 2, .int .i64 9, .int .i64 1, .int .u8 3, .int .i64 3, .int .i64 3, .int .i64 4, .int .i64 0, .int .u8 4, .int .i64 1, .int .i64 1, .int .i64 7, .int .i64 0, .int .u8 4, .int .i64 1, .int .i64 2, .int .i64 2, .int .i64 0, .int .u8 4, .int .i64 2, .int .i64 3, .int .i64 7, .int .i64 1, .int .u8 4, .int .i64 3, .int .i64 4, .int .i64 10, .int .i64 0, .int .u8 5, .int .i64 1, .int .i64 1, .int .i64 2, .int .i64 0, .int .u8 5, .int .i64 1, .int .i64 2, .int .i64 1, .int .i64 1, .int .u8 5, .int .i64 1, .int .i64 3, .int .i64 7, .int .i64 0, .int .u8 5, .int .i64 1, .int .i64 4, .int .i64 1, .int .i64 2, .int .u8 5, .int .i64 1, .int .i64 5, .int .i64 4, .int .i64 3, .int .u8 5, .int .i64 2, .int .i64 6, .int .i64 2, .int .i64 4, .int .u8 5, .int .i64 3, .int .i64 7, .int .i64 10, .int .i64 0, .int .u8 6, .int .i64 1, .int .i64 1, .int .i64 2, .int .i64 0, .int .u8 6, .int .i64 1, .int .i64 2, .int .i64 1, .int .i64 1, .int .u8 6, .int .i64 1, .int .i64 3, .int .i64 1, .int .i64 2, .int .u8 6, .int .i64 1, .int .i64 4, .int .i64 4, .int .i64 3, .int .u8 6, .int .i64 1, .int .i64 5, .int .i64 1, .int .i64 4, .int .u8 6, .int .i64 2, .int .i64 6, .int .i64 8, .int .i64 0, .int .u8 6, .int .i64 3, .int .i64 7, .int .i64 3, .int .i64 5, .int .u8 7, .int .i64 1, .int .i64 1, .int .i64 2, .int .i64 0, .int .u8 7, .int .i64 2, .int .i64 2, .int .i64 8, .int .i64 0, .int .u8 8, .int .i64 2, .int .i64 1, .int .i64 2, .int .i64 0, .int .u8 9, .int .i64 1, .int .i64 1, .int .i64 2, .int .i64 0, .int .u8 9, .int .i64 1, .int .i64 2, .int .i64 1, .int .i64 1, .int .u8 9, .int .i64 1, .int .i64 3, .int .i64 1, .int .i64 2, .int .u8 9, .int .i64 2, .int .i64 4, .int .i64 10, .int .i64 0, .int .u8 9, .int .i64 3, .int .i64 5, .int .i64 5, .int .i64 3, .int .u8 9, .int .i64 3, .int .i64 6, .int .i64 3, .int .i64 4, .int .u8 10, .int .i64 1, .int .i64 1, .int .i64 1, .int .i64 0, .int .u8 10, .int .i64 1, .int .i64 2, .int .i64 8, .int .i64 0, .int .u8 10, .int .i64 2, .int .i64 3, .int .i64 2, .int .i64 1, .int .u8 10, .int .i64 3, .int .i64 4, .int .i64 6, .int .i64 2]
def rowV (r : SRow) : Value := .agg #[.int .u8 (r.kind : Nat), .int .i64 (r.since : Nat), .int .i64 (r.num : Nat), .int .i64 (r.typ : Nat), .int .i64 (r.slot : Nat)]
theorem lit_idx (W : World) : (j : Nat) → (h : j < 40) → (Instr.index 147 (.agg LIT) (.int .i64 (j : Nat))).run Try.prog W = .ok (rowV (rowAt j)) W
  | 0, _ => by as_aux_lemma => kernel_rfl
  | 1, _ => by as_aux_lemma => kernel_rfl
  | 2, _ => by as_aux_lemma => kernel_rfl
  | 3, _ => by as_aux_lemma => kernel_rfl
  | 4, _ => by as_aux_lemma => kernel_rfl
  | 5, _ => by as_aux_lemma => kernel_rfl
  | 6, _ => by as_aux_lemma => kernel_rfl
  | 7, _ => by as_aux_lemma => kernel_rfl
  | 8, _ => by as_aux_lemma => kernel_rfl
  | 9, _ => by as_aux_lemma => kernel_rfl
  | 10, _ => by as_aux_lemma => kernel_rfl
  | 11, _ => by as_aux_lemma => kernel_rfl
  | 12, _ => by as_aux_lemma => kernel_rfl
  | 13, _ => by as_aux_lemma => kernel_rfl
  | 14, _ => by as_aux_lemma => kernel_rfl
  | 15, _ => by as_aux_lemma => kernel_rfl
  | 16, _ => by as_aux_lemma => kernel_rfl
  | 17, _ => by as_aux_lemma => kernel_rfl
  | 18, _ => by as_aux_lemma => kernel_rfl
  | 19, _ => by as_aux_lemma => kernel_rfl
  | 20, _ => by as_aux_lemma => kernel_rfl
  | 21, _ => by as_aux_lemma => kernel_rfl
  | 22, _ => by as_aux_lemma => kernel_rfl
  | 23, _ => by as_aux_lemma => kernel_rfl
  | 24, _ => by as_aux_lemma => kernel_rfl
  | 25, _ => by as_aux_lemma => kernel_rfl
  | 26, _ => by as_aux_lemma => kernel_rfl
  | 27, _ => by as_aux_lemma => kernel_rfl
  | 28, _ => by as_aux_lemma => kernel_rfl
  | 29, _ => by as_aux_lemma => kernel_rfl
  | 30, _ => by as_aux_lemma => kernel_rfl
  | 31, _ => by as_aux_lemma => kernel_rfl
  | 32, _ => by as_aux_lemma => kernel_rfl
  | 33, _ => by as_aux_lemma => kernel_rfl
  | 34, _ => by as_aux_lemma => kernel_rfl
  | 35, _ => by as_aux_lemma => kernel_rfl
  | 36, _ => by as_aux_lemma => kernel_rfl
  | 37, _ => by as_aux_lemma => kernel_rfl
  | 38, _ => by as_aux_lemma => kernel_rfl
  | 39, _ => by as_aux_lemma => kernel_rfl
  | j + 40, h => absurd h (by omega)
theorem wpListIn_build_lit {F : Fence} {n : Nat} {P : Program} {w : World} {ops : Array Oper} {rest : List Oper} {o : Oper} {a : Act} {Q : Exit → Act → World → Prop} (hgd : o.guard = none) (t : TypeId) (parts : Array (Nat × Operand)) (ho : o.op = .build t parts)
    (v : Value) (hrun : (Instr.build t (parts.map fun (i, x) => (i, a.eval x))).run P w = .ok v w) (h : wpListIn F n P ops Q rest (a.put o.dst v) w) : wpListIn F n P ops Q (o :: rest) a w := by
  refine wpListIn_plain hgd fun K hK => ?_
  unfold Oper.wpIn
  refine ⟨?_, ?_⟩
  · simp [Oper.about, ho]
  · rw [Oper.semAt_plain F _ _ (by rw [ho]; intro c hc'; cases hc')]
    simp only [execOp, ho]
    rw [Sem.run_bind, hrun]
    exact hK _ _ h
set_option maxRecDepth 100000 in
set_option maxHeartbeats 4000000 in
theorem rows1_in (m : Nat) (hm : 1 ≤ m) (l : Nat) (J : Nat → World → Prop) (Jx : World → Prop) (hJn : ∀ j W W', J j W → Chg (fun _ => False) W W' → J j W')
    (hY : ∀ j W, j < 40 → J j W → YieldAt Fence.wide (m - 1) Try.prog l #[rowV (rowAt j)] W fun e W' => (e = .returned (.bool true) ∧ J (j + 1) W') ∨ (e = .returned (.bool false) ∧ Jx W'))
    (W : World) (h0 : J 0 W) :
    CallsIn Fence.wide m Try.prog 83 #[.func (.yield l) #[] #[]] W fun e W' => (∃ v, e = .returned v) ∧ (J 40 W' ∨ Jx W') := by
  have hidx := fun W j h => lit_idx W j h
  have HY := hid hY
  have HJN := hid hJn
  have HI := hid hidx
  clear hY hJn hidx
  refine callsIn_of_wp Try.func83 rfl trivial ?_ rfl
  simp only [Try.ntmps83, List.size_toArray, List.length_cons, List.length_nil, Nat.reduceAdd, Nat.reduceSub, Array.replicate_succ, Array.replicate_zero, List.push_toArray, List.append_toArray, List.nil_append, List.cons_append]
  gi_wp2_with (refine wpListIn_build_lit rfl 147 _ rfl (.agg LIT) (by as_aux_lemma => kernel_rfl) ?_)
  gi_loopw [3, 45] (fun _ p wr => ∃ (j : Nat), p = .int .i64 (j : Int) ∧ j ≤ 40 ∧ J j wr) (fun _ p _ => 40 - (intOf p).toNat)
  case atStart => exact ⟨0, rfl, by omega, h0⟩
  case round =>
    obtain ⟨j, rfl, hj, hJ⟩ := hrel
    by_cases hlt : j < 40
    · have hi := fun W => HI.out W j hlt
      unfold rowV at hi
      have hy0 := fun (W' : World) (hc : Chg (fun _ => False) wr W') => HY.out j W' hlt (HJN.out j wr W' hJ hc)
      unfold rowV at hy0
      generalize rowAt j = r at *
      obtain ⟨k, si, nu, ty, sl⟩ := r
      simp only at hi hy0
      obtain ⟨fn, tmps, assign, body, hy, hR⟩ := hy0 (wr.alloc (.cells #[.int .u8 (k : Nat), .int .i64 (si : Nat), .int .i64 (nu : Nat), .int .i64 (ty : Nat), .int .i64 (sl : Nat)] 125)) ((Chg.refl _ wr).alloc _)
      clear hy0
      gi_wp2
      refine hR.mono ?_
      rintro e W3 (⟨rfl, hJ3⟩ | ⟨rfl, hJx3⟩)
      · gi_wp2
        go_roundw
        case rel => exact ⟨j + 1, by go_num, by omega, hJ3⟩
        case measure => simp [intOf]; omega
      · gi_wp2
        refine bodyPost_ret (results_none rfl _ _ _) rfl ?_
        exact ⟨⟨_, rfl⟩, .inr hJx3⟩
    · obtain rfl : j = 40 := by omega
      gi_wp2
      go_end0
      exact ⟨⟨_, rfl⟩, .inl hJ⟩
end Go.Proofs.Ytpmfdlghckfgiaa
set_option linter.unusedVariables false
namespace Go.Proofs.Ytpmfdlghckfgiaa
open Go.RowKit Go.Shelf
attribute [local go_sem] Oper.semAt_some
def specV (r : SRow) : Value := .agg #[.int .i64 (r.num : Nat), .int .i64 (r.typ : Nat), .int .i64 (r.slot : Nat)]
def specC (r : SRow) : List Value := [.int .i64 (r.num : Nat), .int .i64 (r.typ : Nat), .int .i64 (r.slot : Nat)]
def knAt (v : Int) (k : Nat) : SRow := (kn v).getD k default
def kArgs (r : SRow) : Array Value := #[.int .u8 (r.kind : Nat), specV r]
theorem knAt_cnt (v : Int) (hv : ¬ 3 < v) (j : Nat) (hj : j < 40) (h : ((rowAt j).since : Int) ≤ v) : knAt v (cnt v j) = rowAt j := by
  unfold knAt
  rw [List.getD_eq_getElem?_getD, kn_split v hv j hj h]
  rfl
theorem rows_in (m : Nat) (w : World) :
    CallsIn Fence.wide m Try.prog 67 #[] w fun e w' => e = .returned (.func (.func 83) #[] #[]) ∧ w' = w := by
  refine callsIn_of_wp Try.func67 rfl trivial ?_ rfl
  simp only [Try.ntmps67, List.size_toArray, List.length_nil, Nat.reduceSub, Array.replicate_succ, Array.replicate_zero, List.push_toArray, List.append_toArray, List.nil_append]
  gi_wp2
  go_ret
  exact ⟨rfl, rfl⟩
theorem known_in (m : Nat) (v : Int) (w : World) :
    CallsIn Fence.wide m Try.prog 48 #[.int .i64 v] w fun e w' => e = .returned (.func (.func 66) #[] #[.pointer (some ⟨w.heap.size, 0, none⟩)]) ∧ w' = w.alloc (.cells #[.int .i64 v] 3) := by
  refine callsIn_of_wp Try.func48 rfl trivial ?_ rfl
  simp only [Try.ntmps48, List.size_toArray, List.length_cons, List.length_nil, Nat.reduceAdd, Nat.reduceSub, Array.replicate_succ, Array.replicate_zero, List.push_toArray, List.append_toArray, List.nil_append, List.cons_append]
  gi_wp2
  go_ret
  exact ⟨rfl, rfl⟩
set_option maxRecDepth 100000 in
set_option maxHeartbeats 4000000 in
theorem known1_in (m : Nat) (hm : 3 ≤ m) (l Bv : Nat) (v : Int) (hv1 : -9223372036854775808 ≤ v) (hv2 : v ≤ 9223372036854775807) (J : Nat → World → Prop) (Jx : World → Prop) (B0 : Nat) (hB0 : Bv < B0)
    (hJc : ∀ k W, J k W → W.cell? ⟨Bv, 0, none⟩ = some (.int .i64 v))
    (hJn : ∀ k W W', J k W → Chg (fun q => B0 ≤ q ∧ q < B0 + 3) W W' → J k W')
    (hY : ∀ k W, k < (kn v).length → J k W → B0 + 3 ≤ W.heap.size → YieldAt Fence.wide (m - 1) Try.prog l (kArgs (knAt v k)) W fun e W' => (e = .returned (.bool true) ∧ J (k + 1) W' ∧ KN B0 3 W W') ∨ (e = .returned (.bool false) ∧ Jx W' ∧ KN B0 3 W W'))
    (W : World) (hW : W.heap.size = B0) (h0 : J 0 W) :
    CallsIn Fence.wide m Try.prog 66 #[.func (.yield l) #[] #[], .pointer (some ⟨Bv, 0, none⟩)] W fun e W' => (∃ v, e = .returned v) ∧ (J (kn v).length W' ∨ ∃ W0, Jx W0 ∧ Chg (fun q => B0 ≤ q ∧ q < B0 + 3) W0 W') := by
  have hc0 := hJc 0 W h0
  have hbl := World.block_lt_of_cell? W _ hc0
  have h1 : 1 ≤ m := by omega
  have HY := hid hY
  have HJC := hid hJc
  have HJN := hid hJn
  clear hY hJc hJn
  refine callsIn_of_wp_marks Try.func66 rfl trivial ?_ rfl
  simp only [Try.ntmps66, List.size_toArray, List.length_cons, List.length_nil, Nat.reduceAdd, Nat.reduceSub, Array.replicate_succ, Array.replicate_zero, List.push_toArray, List.append_toArray, List.nil_append, List.cons_append]
  by_cases hv : 3 < v
  · rw [kn_out v hv]
    gi_wp2
    exact ⟨_, results_none rfl _ _ _, ⟨_, rfl⟩, .inl (HJN.out 0 _ _ h0 ((Chg.refl _ W).alloc _))⟩
  · have HV := hid hv
    gi_wp2_with (refine ⟨trivial, ?_⟩; gi_at_call 67; refine (rows_in (m - 1) _).mono ?_; rintro e w' ⟨rfl, rfl⟩)
    have hkb : Blk (W.alloc (.cells #[.func (.yield l) #[] #[]] 120)) B0 120 #[.func (.yield l) #[] #[]] := by rw [← hW]; exact Blk.new W _ _
    have hJa := HJN.out 0 _ _ h0 ((Chg.refl (fun q => B0 ≤ q ∧ q < B0 + 3) W).alloc (.cells #[.func (.yield l) #[] #[]] 120))
    obtain ⟨Wa, hWa⟩ : ∃ Wa, W.alloc (.cells #[.func (.yield l) #[] #[]] 120) = Wa := ⟨_, rfl⟩
    have hza : Wa.heap.size = B0 + 1 := by rw [← hWa, World.size_alloc, hW]
    rw [hWa] at hkb hJa ⊢
    clear hWa
    refine range_wide m (by omega) (B0 + 1) hza (gf := 83) (lb := #[]) rfl (enters_of Try.func83 (by kernel_rfl) rfl) 40 (fun j => #[rowV (rowAt j)]) (fun _ => rfl) 0
      (fun j W' => J (cnt v j) W' ∧ Blk W' B0 120 #[.func (.yield l) #[] #[]]) (fun c W' => c = .ret ∧ ∃ W0, Jx W0 ∧ Chg (fun q => B0 ≤ q ∧ q < B0 + 3) W0 W') ?_ ?_ ?_ ?_ ?_ ?_ ?_
    · rintro j W1 W2 ⟨a1, a2⟩ hc
      exact ⟨HJN.out _ _ _ a1 (hc.mono fun q _ hq => by omega), hc.blk a2 (by omega)⟩
    · rintro c W1 W2 ⟨a1, W0, a2, a3⟩ hc
      exact ⟨a1, W0, a2, a3.trans (hc.mono fun q _ hq => by omega)⟩
    · exact ⟨hJa, hkb⟩
    · intro l2 J2 Jx2 W1 hw1 hJI hJn2 _ hJ0 hy
      exact rows1_in (m - 1) (by omega) l2 J2 Jx2 (fun j W W' h hc => hJn2 j W W' h (hc.mono fun q _ hq => hq.elim)) (fun j W hj h => by
          obtain ⟨fn, tm, as1, bd, e1, e2⟩ := hy j W hj h (hJI j W h).2
          refine ⟨fn, tm, as1, bd, e1, e2.mono ?_⟩
          rintro e W' (⟨h1, h2, -⟩ | ⟨h1, h2, -⟩)
          · exact .inl ⟨h1, h2⟩
          · exact .inr ⟨h1, h2⟩) W1 hJ0
    · rintro l2 j W1 hj ⟨a1, a2⟩ hsz
      have hrow := rowAt_ok j hj
      have hhas := cnt_has v j hj
      have hnot := cnt_not v j hj
      have hkl := cnt_lt v (by have := HV.out; omega) j hj
      have hka := knAt_cnt v (by have := HV.out; omega) j hj
      unfold rowV
      generalize rowAt j = r at *
      obtain ⟨k, si, nu, ty, sl⟩ := r
      simp only at hhas hnot hkl hka hrow
      gi_wp2
      have hca : Chg (fun _ => False) W1 (W1.alloc (.cells #[.int .u8 (k : Nat), .int .i64 (si : Nat), .int .i64 (nu : Nat), .int .i64 (ty : Nat), .int .i64 (sl : Nat)] 125)) := (Chg.refl _ W1).alloc _
      have hkr := Blk.new W1 125 #[.int .u8 (k : Nat), .int .i64 (si : Nat), .int .i64 (nu : Nat), .int .i64 (ty : Nat), .int .i64 (sl : Nat)]
      refine ⟨KN.of_chg hca (by omega) (fun q _ _ h => h), by omega, fun W2 hc2 => ?_⟩
      have hj2 : J (cnt v j) W2 := HJN.out _ _ _ a1 ((hca.mono fun q _ h => h.elim).trans (hc2.mono fun q _ h => by omega))
      have hk2 := hc2.blk hkr (by have := hkr.lt; omega)
      have hkb2 := hc2.blk (hca.blk a2 (fun h => h)) (by omega)
      have hcv := HJC.out _ _ hj2
      have d0 := hk2.cell 0
      have d1 := hk2.cell 1
      have d2 := hk2.cell 2
      have d3 := hk2.cell 3
      have d4 := hk2.cell 4
      have e0 := hkb2.cell 0
      simp only [List.getElem?_toArray, List.getElem?_cons_zero, List.getElem?_cons_succ] at d0 d1 d2 d3 d4 e0
      have hsz2 : B0 + 3 ≤ W2.heap.size := by have := hc2.size; rw [World.size_alloc] at this; omega
      by_cases hsi : (si : Int) ≤ v
      · have hyk := HY.out (cnt v j) W2 (hkl (by omega)) hj2 hsz2
        rw [hka (by omega)] at hyk
        unfold kArgs specV at hyk
        simp only at hyk
        obtain ⟨fn, tmps, as1, bd, hy, hR⟩ := hyk
        have HKB := hid hkb2
        have HN := hid (hhas (by omega))
        have hge : ¬ v < (si : Int) := by omega
        clear hhas hnot hkl hka hk2 hkb2 hj2 a1 a2 hkr hca
        gi_wp2
        refine ⟨fun _ => by omega, ?_⟩
        have hR2 : RoundIn (Fence.wide.inRound l2) (m - 1 - 1 - 1) Try.prog l fn tmps as1 bd W2 _ := ⟨hR.1, fun c cs _ => hR.2 c cs (by simp [Fence.room, Fence.wide])⟩
        refine hR2.mono ?_
        rintro e W3 (⟨rfl, hj3, hkn⟩ | ⟨rfl, hx3, hkn⟩)
        · gi_wp2
          refine ⟨hkn.sub (by omega) (by omega), ?_, (hkn B0 (Nat.le_refl _) (by omega)).trans HKB.out⟩
          rw [HN.out]
          exact hj3
        · gi_wp2
          exact ⟨hkn.sub (by omega) (by omega), rfl, W3, hx3, Chg.refl _ _⟩
      · have hlt : v < (si : Int) := by omega
        have HJ2 := hid hj2
        have HKB := hid hkb2
        have HN := hid (hnot (by omega))
        have HSI := hid hsi
        clear hhas hnot hkl hka hk2 hkb2 hj2 a1 a2 hkr hca
        gi_wp2
        refine ⟨KN.refl _ _ _, ?_, HKB.out⟩
        rw [HN.out]
        exact HJ2.out
    · rintro W1 ⟨a1, a2⟩ hd
      rw [cnt_all v (by have := HV.out; omega)] at a1
      have hM : Marks (B0 + 1) W1 [B0 + 1] := (Marks.nil_ _ _).cons_ (Nat.le_refl _) (by simp) hd
      refine leaves_marks (B0 + 1) [B0 + 1] W1 hM fun W6 h6 => ?_
      exact ⟨_, results_none rfl _ _ _, ⟨_, rfl⟩, .inl (HJN.out _ _ _ a1 (h6.mono fun q _ hq => by simp at hq; omega))⟩
    · rintro c W1 ⟨rfl, W0, a1, a2⟩ hd
      gi_wp2
      have hM : Marks (B0 + 1) W1 [B0 + 1] := (Marks.nil_ _ _).cons_ (Nat.le_refl _) (by simp) hd
      refine leaves_marks (B0 + 1) [B0 + 1] W1 hM fun W6 h6 => ?_
      exact ⟨_, results_none rfl _ _ _, ⟨_, rfl⟩, .inr ⟨W0, a1, a2.trans (h6.mono fun q _ hq => by simp at hq; omega)⟩⟩
end Go.Proofs.Ytpmfdlghckfgiaa
set_option linter.unusedVariables false
namespace Go.Proofs.Ytpmfdlghckfgiaa
open Go.RowKit Go.Shelf
attribute [local go_sem] Oper.semAt_some
theorem Try.infoSpec : (Try.prog.info? 48).map (fun i => (i.zero, i.size, i.bytes)) = some (some (.agg #[.int .i64 0, .int .i64 0, .int .i64 0]), 3, 24) := by kernel_rfl
def accL (v k : Int) (j : Nat) : List SRow := ((kn v).take j).filter fun r => decide ((r.kind : Int) = k)
theorem knAt_take (v : Int) (j : Nat) (hj : j < (kn v).length) : (kn v).take (j + 1) = (kn v).take j ++ [knAt v j] := by
  rw [List.take_succ_eq_append_getElem hj]
  congr 2
  unfold knAt
  rw [List.getD_eq_getElem?_getD, List.getElem?_eq_getElem hj]
  rfl
theorem accL_has (v k : Int) (j : Nat) (hj : j < (kn v).length) (h : ((knAt v j).kind : Int) = k) : accL v k (j + 1) = accL v k j ++ [knAt v j] := by
  unfold accL
  rw [knAt_take v j hj, List.filter_append, List.filter_cons_of_pos (by simpa using h)]
  rfl
theorem accL_not (v k : Int) (j : Nat) (hj : j < (kn v).length) (h : ¬ ((knAt v j).kind : Int) = k) : accL v k (j + 1) = accL v k j := by
  unfold accL
  rw [knAt_take v j hj, List.filter_append, List.filter_cons_of_neg (by simpa using h), List.filter_nil, List.append_nil]
theorem accL_all (v k : Int) : accL v k (kn v).length = ofL k v := by
  unfold accL ofL
  rw [List.take_length]
theorem accL_len (v k : Int) (j : Nat) : (accL v k j).length ≤ 40 := by
  unfold accL
  have h1 := List.length_filter_le (fun r : SRow => decide ((r.kind : Int) = k)) ((kn v).take j)
  have h2 := kn_len v
  rw [List.length_take] at h1
  omega
theorem specC_len (l : List SRow) : (l.flatMap specC).length = l.length * 3 := by
  induction l with
  | nil => rfl
  | cons r l ih => rw [List.flatMap_cons, List.length_append, ih, List.length_cons]; show 3 + _ = _; omega
/-- What holds between two rounds of Of. -/
structure OfJ (s : Nat) (w : World) (v k : Int) (L : List SRow) (vv : Value) (W : World) : Prop where
  r0 : Blk W s 5 #[.int .u8 k]
  r1 : Blk W (s + 1) 53 #[vv]
  r2 : Blk W (s + 2) 3 #[.int .i64 v]
  row : W.ownsRow (s + 8) 48 3 vv L.length (L.flatMap specC)
  bel : Below s w W
theorem OfJ.keep {s : Nat} {w W W' : World} {v k : Int} {L : List SRow} {vv : Value} {S : Nat → Prop} (h : OfJ s w v k L vv W) (hc : Chg S W W') (hS : ∀ q, S q → s + 3 ≤ q ∧ q < s + 8) : OfJ s w v k L vv W' := by
  have g := h.r2.lt
  exact ⟨hc.blk h.r0 (fun hq => by have := hS _ hq; omega), hc.blk h.r1 (fun hq => by have := hS _ hq; omega), hc.blk h.r2 (fun hq => by have := hS _ hq; omega), own_chgS h.row hc (fun g hg hk => by have := (h.row.lt g hg).1; have := hS _ hk; omega), h.bel.trans (hc.below (B := s) (fun q hq => by have := hS q hq; omega) (by omega))⟩
theorem OfJ.step {s : Nat} {w W w1 : World} {v k : Int} {L : List SRow} {r : SRow} {vv v' : Value} {o : Obj} (h : OfJ s w v k L vv W) (hg : (W.alloc o).grownBy w1 vv.ownBlock)
    (ho' : w1.ownsRow (s + 8) 48 3 v' (L.length + 1) (L.flatMap specC ++ specC r)) : OfJ s w v k (L ++ [r]) v' (w1.setCell ⟨s + 1, 0, none⟩ v') ∧ Chg (fun q => q = s + 1 ∨ s + 8 ≤ q) W (w1.setCell ⟨s + 1, 0, none⟩ v') := by
  have hb1 : Chg (fun q => s + 8 ≤ q) W w1 := ((Chg.refl _ W).alloc o).trans (Chg.of_grown hg fun g e => (h.row.lt g e).1)
  have hc1 : Chg (fun q => q = s + 1 ∨ s + 8 ≤ q) W w1 := hb1.mono fun q _ hq => .inr hq
  have hc : Chg (fun q => q = s + 1 ∨ s + 8 ≤ q) W (w1.setCell ⟨s + 1, 0, none⟩ v') := hc1.set_ (.inl (.inl rfl)) 0 v'
  have hv1 : Blk w1 (s + 1) 53 #[vv] := hb1.blk h.r1 (by omega)
  have hv2 := hv1.set_ 0 v'
  have g := h.r2.lt
  refine ⟨⟨hc.blk h.r0 (by omega), by simpa using hv2, hc.blk h.r2 (by omega), ?_, h.bel.trans (hc.below (fun q hq => by omega) (by omega))⟩, hc⟩
  have h2 := own_chgS ho' ((Chg.refl (fun q => q = s + 1) w1).set_ (.inl rfl) 0 v') (fun g hg' hk => by have := (ho'.lt g hg').1; omega)
  rw [List.length_append, List.flatMap_append]
  simpa using h2
set_option maxRecDepth 100000 in
set_option maxHeartbeats 4000000 in
theorem sof2_in (m : Nat) (hm : 4 ≤ m) (k v : Int) (w : World) (hv1 : -9223372036854775808 ≤ v) (hv2 : v ≤ 9223372036854775807) :
    CallsIn Fence.wide m Try.prog 28 #[.int .u8 k, .int .i64 v] w fun e W' => ∃ vv, e = .returned (.tuple #[vv, .bool (decide (0 < (ofL k v).length))]) ∧ W'.ownsRow (w.heap.size + 1) 48 3 vv (ofL k v).length ((ofL k v).flatMap specC) ∧ Below w.heap.size w W' := by
  have h1 : 1 ≤ m := by omega
  obtain ⟨i5, hi5, hi50, hi51, hi52⟩ := info_parts Try.infoSpec
  refine callsIn_of_wp_marks Try.func28 rfl trivial ?_ rfl
  simp only [Try.ntmps28, List.size_toArray, List.length_cons, List.length_nil, Nat.reduceAdd, Nat.reduceSub, Array.replicate_succ, Array.replicate_zero, List.push_toArray, List.append_toArray, List.nil_append, List.cons_append]
  gi_wp2_with (refine ⟨trivial, ?_⟩; gi_at_call 48; refine (known_in (m - 1) v _).mono ?_; rintro e w' ⟨rfl, rfl⟩)
  obtain ⟨s, hsz⟩ : ∃ s, w.heap.size = s := ⟨_, rfl⟩
  obtain ⟨Wa, hWa⟩ : ∃ Wa, ((w.alloc (.cells #[.int .u8 k] 5)).alloc (.cells #[.slice none 0 0] 53)).alloc (.cells #[.int .i64 v] 3) = Wa := ⟨_, rfl⟩
  have hza : Wa.heap.size = s + 3 := by rw [← hWa]; simp [hsz]
  have hj0 : OfJ s w v k (accL v k 0) (.slice none 0 0) Wa := by
    refine ⟨?_, ?_, ?_, World.ownsRow_nil _ _ _ _, ?_⟩
    · rw [← hWa, ← hsz]; exact ((Blk.new w _ _).alloc _).alloc _
    · have h := (Blk.new (w.alloc (.cells #[.int .u8 k] 5)) 53 #[.slice none 0 0]).alloc (.cells #[.int .i64 v] 3)
      rw [hWa, World.size_alloc, hsz] at h; exact h
    · have h := Blk.new ((w.alloc (.cells #[.int .u8 k] 5)).alloc (.cells #[.slice none 0 0] 53)) 3 #[.int .i64 v]
      rw [hWa, World.size_alloc, World.size_alloc, hsz] at h; exact h
    · rw [← hWa, ← hsz]; exact bw_a (bw_a (bw_a (Below.refl _ w) _) _) _
  rw [hWa, hsz]
  clear hWa
  refine range_wide m (by omega) (s + 3) hza (gf := 66) (lb := #[.pointer (some ⟨s + 2, 0, none⟩)]) rfl (enters_of Try.func66 (by kernel_rfl) rfl) (kn v).length (fun j => kArgs (knAt v j)) (fun _ => rfl) 3
    (fun j W' => ∃ vv, OfJ s w v k (accL v k j) vv W') (fun c W' => False) ?_ ?_ ?_ ?_ ?_ ?_ ?_
  · rintro j W1 W2 ⟨vv, a1⟩ hc
    exact ⟨vv, a1.keep hc (fun q hq => by omega)⟩
  · rintro c W1 W2 h _
    exact h.elim
  · exact ⟨_, hj0⟩
  · intro l2 J2 Jx2 W1 hw1 hJI hJn2 hJs hJ0 hy
    refine (known1_in (m - 1) (by omega) l2 (s + 2) v hv1 hv2 J2 Jx2 (s + 5) (by omega) (fun j W h => by obtain ⟨⟨vv, h1⟩, h2⟩ := hJI j W h; exact h1.r2.cell 0) (fun j W W' h hc => hJn2 j W W' h (hc.mono fun q _ hq => by omega)) (fun j W hj h hz => hy j W hj h (by omega)) W1 (by omega) hJ0).mono ?_
    rintro e W' ⟨h1, (h2 | ⟨W0, h2, h3⟩)⟩
    · exact ⟨h1, .inl h2⟩
    · exact ⟨h1, .inr (hJs _ _ h2 (h3.mono fun q _ hq => by omega))⟩
  · rintro l2 j W1 hj ⟨vv, a1⟩ hsz2
    have hhas := accL_has v k j hj
    have hnot := accL_not v k j hj
    have hlen := accL_len v k j
    have hlf := specC_len (accL v k j)
    unfold kArgs specV
    generalize knAt v j = r at *
    obtain ⟨rk, si, nu, ty, sl⟩ := r
    simp only at hhas hnot
    have HH := hid hhas
    have HN := hid hnot
    clear hhas hnot
    generalize accL v k j = L at *
    gi_wp2
    have hca : Chg (fun _ => False) W1 (W1.alloc (.cells #[.int .i64 (nu : Nat), .int .i64 (ty : Nat), .int .i64 (sl : Nat)] 48)) := (Chg.refl _ W1).alloc _
    have hkr := Blk.new W1 48 #[.int .i64 (nu : Nat), .int .i64 (ty : Nat), .int .i64 (sl : Nat)]
    refine ⟨KN.of_chg hca (by omega) (fun q _ _ h => h), by rw [World.size_alloc]; omega, fun W2 hc2 => ?_⟩
    have hj2 := (a1.keep hca (fun q h => h.elim)).keep hc2 (fun q h => by omega)
    have hk2 := hc2.blk hkr (by omega)
    have hlt2 := hk2.lt
    have c0 := hj2.r0.cell 0
    have c1 := hj2.r1.cell 0
    have f1 := hj2.r1.frozen 0
    have d0 := hk2.cell 0
    have d1 := hk2.cell 1
    have d2 := hk2.cell 2
    simp only [List.getElem?_toArray, List.getElem?_cons_zero, List.getElem?_cons_succ] at c0 c1 d0 d1 d2
    have HJ := hid hj2
    clear hj2 hk2 hca hkr a1
    by_cases hk : (rk : Int) = k
    · have hkb : ((rk : Int) == k) = true := by simpa using hk
      gi_wp2_with (gi_at_builtin; refine wpListIn_append_rd _ rfl _ _ 53 rfl (s + 8) 48 i5 (.agg #[.int .i64 0, .int .i64 0, .int .i64 0]) 3 24 Try.underlying53 hi5 hi50 hi51 hi52 rfl (by decide) vv L.length (L.flatMap specC) rfl (HJ.out.row.alloc _) ⟨W2.heap.size, 0, none⟩ 1 1 [.int .i64 (nu : Nat), .int .i64 (ty : Nat), .int .i64 (sl : Nat)] rfl rfl (Rd.new W2 48 #[.int .i64 (nu : Nat), .int .i64 (ty : Nat), .int .i64 (sl : Nat)]) (by simp [Value.oneCell']) (by simp only [maxLen]; omega) (by omega) (by simp; omega) ?_; intro v' w1 hown' hgrow; obtain ⟨g', cap', rfl⟩ := ownsRow_succ hown'; have hst := OfJ.step (r := ⟨rk, si, nu, ty, sl⟩) HJ.out hgrow hown'; have hg1 : some (s + 1) ≠ vv.ownBlock := (fun e => by have := (HJ.out.row.lt _ e.symm).1; omega); have hw1 := (hgrow.block (s + 1) (by have := HJ.out.r1.lt; simp; omega) hg1).trans (HJ.out.r1.alloc _); have hc1 := Blk.cell hw1 0; have hf1 := Blk.frozen hw1 0; simp only [List.getElem?_toArray, List.getElem?_cons_zero] at hc1)
      obtain ⟨hj5, hc5⟩ := hst
      exact ⟨KN.of_chg hc5 (by omega) (fun q g1 g2 => by omega), _, by rw [HH.out hk]; exact hj5⟩
    · have hkb : ((rk : Int) == k) = false := by simpa using hk
      gi_wp2
      exact ⟨KN.refl _ _ _, _, by rw [HN.out hk]; exact HJ.out⟩
  · rintro W1 ⟨vv, a1⟩ hd
    rw [accL_all] at a1
    have hlen : (ofL k v).length ≤ 40 := by rw [← accL_all]; exact accL_len _ _ _
    obtain ⟨L, hL⟩ : ∃ L, ofL k v = L := ⟨_, rfl⟩
    rw [hL] at a1 hlen
    obtain ⟨A, c, rfl⟩ : ∃ A c, vv = .slice A L.length c := by
      rcases a1.row.2 with ⟨rfl, h⟩ | ⟨g, cap, cur, rfl, _⟩
      · exact ⟨none, 0, by rw [h]⟩
      · exact ⟨_, _, rfl⟩
    have c1 := a1.r1.cell 0
    simp only [List.getElem?_toArray, List.getElem?_cons_zero] at c1
    have hmx : Try.prog.follows .mixedOrders = true := by kernel_rfl
    have HJ := hid a1
    have HD := hid hd
    clear a1 hd
    gi_wp2
    gi_quiet (fail)
    gi_wp2
    have hM : Marks (s + 3) (W1.drewN nq) [s + 3] := (Marks.nil_ _ _).cons_ (Nat.le_refl _) (by simp) HD.out
    refine leaves_marks (s + 3) [s + 3] _ hM fun W6 h6 => ?_
    have hj : OfJ s w v k L (.slice A L.length c) (W1.drewN nq) := ⟨HJ.out.r0, HJ.out.r1, HJ.out.r2, HJ.out.row, ⟨HJ.out.bel.os, HJ.out.bel.tape, HJ.out.bel.output, HJ.out.bel.size, HJ.out.bel.block⟩⟩
    have hj6 := hj.keep h6 (fun q hq => by simp at hq; omega)
    refine ⟨.tuple #[.slice A L.length c, .bool (decide (0 < L.length))], by simp [results, Try.results28, go_sem], _, by rw [hL], ?_, ?_⟩
    · rw [hL, hsz]; exact own_mono hj6.row (by omega)
    · rw [hsz]; exact hj6.bel
  · rintro c W1 h _
    exact h.elim
end Go.Proofs.Ytpmfdlghckfgiaa
set_option linter.unusedVariables false
namespace Go.Proofs.Ytpmfdlghckfgiaa
open Go.RowKit Go.Shelf
attribute [local go_sem] Oper.semAt_some
def kvN (k : Nat) : Value := .int .u8 (k : Nat)
/-- What holds between two rounds of Kinds. -/
structure KiJ (s : Nat) (w : World) (v : Int) (L : List Nat) (last : Nat) (vv : Value) (W : World) : Prop where
  r0 : Blk W s 22 #[vv]
  r1 : Blk W (s + 1) 5 #[.int .u8 (last : Nat)]
  r2 : Blk W (s + 2) 3 #[.int .i64 v]
  row : W.ownsRow (s + 8) 5 1 vv L.length (L.map kvN)
  bel : Below s w W
theorem KiJ.keep {s : Nat} {w W W' : World} {v : Int} {L : List Nat} {last : Nat} {vv : Value} {S : Nat → Prop} (h : KiJ s w v L last vv W) (hc : Chg S W W') (hS : ∀ q, S q → s + 3 ≤ q ∧ q < s + 8) : KiJ s w v L last vv W' := by
  have g := h.r2.lt
  exact ⟨hc.blk h.r0 (fun hq => by have := hS _ hq; omega), hc.blk h.r1 (fun hq => by have := hS _ hq; omega), hc.blk h.r2 (fun hq => by have := hS _ hq; omega), own_chgS h.row hc (fun g hg hk => by have := (h.row.lt g hg).1; have := hS _ hk; omega), h.bel.trans (hc.below (B := s) (fun q hq => by have := hS q hq; omega) (by omega))⟩
theorem KiJ.last {s : Nat} {w W : World} {v : Int} {L : List Nat} {last : Nat} {vv : Value} (h : KiJ s w v L last vv W) (r : Nat) : KiJ s w v L r vv (W.setCell ⟨s + 1, 0, none⟩ (.int .u8 (r : Nat))) ∧ Chg (fun q => q = s + 1) W (W.setCell ⟨s + 1, 0, none⟩ (.int .u8 (r : Nat))) := by
  have hc : Chg (fun q => q = s + 1) W (W.setCell ⟨s + 1, 0, none⟩ (.int .u8 (r : Nat))) := (Chg.refl (fun q => q = s + 1) W).set_ (.inl rfl) 0 _
  have g := h.r2.lt
  exact ⟨⟨hc.blk h.r0 (by omega), by simpa using h.r1.set_ 0 (.int .u8 (r : Nat)), hc.blk h.r2 (by omega), own_chgS h.row hc (fun g hg hk => by have := (h.row.lt g hg).1; omega), h.bel.trans (hc.below (fun q hq => by omega) (by omega))⟩, hc⟩
theorem KiJ.step {s : Nat} {w W w1 : World} {v : Int} {L : List Nat} {last r : Nat} {vv v' : Value} {o : Obj} (h : KiJ s w v L last vv W) (hg : (W.alloc o).grownBy w1 vv.ownBlock)
    (ho' : w1.ownsRow (s + 8) 5 1 v' (L.length + 1) (L.map kvN ++ [kvN r])) : KiJ s w v (L ++ [r]) last v' (w1.setCell ⟨s, 0, none⟩ v') ∧ Chg (fun q => q = s ∨ s + 8 ≤ q) W (w1.setCell ⟨s, 0, none⟩ v') := by
  have hb1 : Chg (fun q => s + 8 ≤ q) W w1 := ((Chg.refl _ W).alloc o).trans (Chg.of_grown hg fun g e => (h.row.lt g e).1)
  have hc1 : Chg (fun q => q = s ∨ s + 8 ≤ q) W w1 := hb1.mono fun q _ hq => .inr hq
  have hc : Chg (fun q => q = s ∨ s + 8 ≤ q) W (w1.setCell ⟨s, 0, none⟩ v') := hc1.set_ (.inl (.inl rfl)) 0 v'
  have hv1 : Blk w1 s 22 #[vv] := hb1.blk h.r0 (by omega)
  have hv2 := hv1.set_ 0 v'
  have g := h.r2.lt
  refine ⟨⟨by simpa using hv2, hc.blk h.r1 (by omega), hc.blk h.r2 (by omega), ?_, h.bel.trans (hc.below (fun q hq => by omega) (by omega))⟩, hc⟩
  have h2 := own_chgS ho' ((Chg.refl (fun q => q = s) w1).set_ (.inl rfl) 0 v') (fun g hg' hk => by have := (ho'.lt g hg').1; omega)
  rw [List.length_append, List.map_append]
  simpa using h2
end Go.Proofs.Ytpmfdlghckfgiaa
set_option linter.unusedVariables false
namespace Go.Proofs.Ytpmfdlghckfgiaa
open Go.RowKit Go.Shelf
attribute [local go_sem] Oper.semAt_some
def pF (k n : Int) (r : SRow) : Bool := decide ((r.kind : Int) = k ∧ (r.num : Int) = n)
def finS (k v n : Int) : Option SRow := (kn v).find? (pF k n)
def specO : Option SRow → Value
  | none => .agg #[.int .i64 0, .int .i64 0, .int .i64 0]
  | some r => specV r
/-- What holds between two rounds of Find. -/
structure FiJ (s : Nat) (w : World) (v k n : Int) (W : World) : Prop where
  r0 : Blk W s 5 #[.int .u8 k]
  r1 : Blk W (s + 1) 3 #[.int .i64 n]
  r2 : Blk W (s + 2) 48 #[.int .i64 0, .int .i64 0, .int .i64 0]
  r3 : Blk W (s + 3) 4 #[.bool false]
  r4 : Blk W (s + 4) 3 #[.int .i64 v]
  bel : Below s w W
theorem FiJ.keep {s : Nat} {w W W' : World} {v k n : Int} {S : Nat → Prop} (h : FiJ s w v k n W) (hc : Chg S W W') (hS : ∀ q, S q → s + 5 ≤ q) : FiJ s w v k n W' := by
  have g := h.r4.lt
  exact ⟨hc.blk h.r0 (fun hq => by have := hS _ hq; omega), hc.blk h.r1 (fun hq => by have := hS _ hq; omega), hc.blk h.r2 (fun hq => by have := hS _ hq; omega), hc.blk h.r3 (fun hq => by have := hS _ hq; omega), hc.blk h.r4 (fun hq => by have := hS _ hq; omega), h.bel.trans (hc.below (B := s) (fun q hq => by have := hS q hq; omega) (by omega))⟩
/-- What holds when Find has found. -/
structure FiX (s : Nat) (w : World) (r : SRow) (W : World) : Prop where
  r2 : Blk W (s + 2) 48 #[.int .i64 (r.num : Nat), .int .i64 (r.typ : Nat), .int .i64 (r.slot : Nat)]
  r3 : Blk W (s + 3) 4 #[.bool true]
  bel : Below s w W
theorem FiX.keep {s : Nat} {w W W' : World} {r : SRow} {S : Nat → Prop} (h : FiX s w r W) (hc : Chg S W W') (hS : ∀ q, S q → s + 5 ≤ q) : FiX s w r W' := by
  have g := h.r3.lt
  exact ⟨hc.blk h.r2 (fun hq => by have := hS _ hq; omega), hc.blk h.r3 (fun hq => by have := hS _ hq; omega), h.bel.trans (hc.below (B := s) (fun q hq => by have := hS q hq; omega) (by omega))⟩
end Go.Proofs.Ytpmfdlghckfgiaa
set_option linter.unusedVariables false
namespace Go.Proofs.Ytpmfdlghckfgiaa
theorem kn_one (v : Int) : v = 1 ∨ v = 2 ∨ v = 3 ∨ ((v < 1 ∨ 3 < v) ∧ kn v = []) := by
  by_cases h : 3 < v
  · exact .inr (.inr (.inr ⟨.inr h, kn_out v h⟩))
  by_cases h1 : v < 1
  · refine .inr (.inr (.inr ⟨.inl h1, ?_⟩))
    rw [kn_in v h, List.filter_eq_nil_iff]
    intro r hr
    have h2 := List.all_eq_true.1 (show ROWS.all (fun r => decide (1 ≤ r.since)) = true by decide) r hr
    simp at h2 ⊢
    omega
  omega
theorem ofL_nil (k v : Int) (h : kn v = []) : ofL k v = [] := by unfold ofL; rw [h]; rfl
/-- All rows of a kind, in order. -/
def ofK (k : Int) : List SRow := ROWS.filter fun r => decide ((r.kind : Int) = k)
theorem ofL_in (k v : Int) (h : ¬ 3 < v) : ofL k v = (ofK k).filter fun r => decide ((r.since : Int) ≤ v) := by
  unfold ofL ofK
  rw [kn_in v h, List.filter_filter, List.filter_filter]
  congr 1
  funext r
  exact Bool.and_comm _ _
theorem finS_of (k v n : Int) : finS k v n = (ofL k v).find? fun r => decide ((r.num : Int) = n) := by
  unfold finS ofL
  rw [List.find?_filter]
  congr 1
  funext r
  unfold pF
  simp
theorem ofL_kind (k : Nat) (v : Int) (hk : k = 0 ∨ 10 < k) : ofL k v = [] := by
  unfold ofL
  rw [List.filter_eq_nil_iff]
  intro r hr
  have h2 := List.all_eq_true.1 (show ROWS.all (fun r => decide (1 ≤ r.kind ∧ r.kind ≤ 10)) = true by decide) r (kn_mem v hr)
  simp at h2 ⊢
  omega
/-- A type's sort: a number, a text, a list. -/
def sortN (t : Int) : Nat := if t ≤ 6 then 0 else if t < 10 then 1 else 2
/-- Whether a version's rows of a kind are in a later one, and unlike. -/
def growB (k : Nat) (v : Int) : Bool :=
  (List.range (ofL k v).length).all fun i =>
    ([1, 2, 3].all fun l => !decide (v ≤ l) || decide (finS k l (((ofL k v).getD i default).num : Int) = some ((ofL k v).getD i default))) &&
    (List.range i).all fun j => decide (((ofL k v).getD j default).num < ((ofL k v).getD i default).num) && !(decide (sortN ((ofL k v).getD j default).typ = sortN ((ofL k v).getD i default).typ ∧ ((ofL k v).getD j default).slot = ((ofL k v).getD i default).slot))
theorem growB_1 : (List.range 11).all (fun k => growB k 1) = true := by decide +kernel
theorem growB_2 : (List.range 11).all (fun k => growB k 2) = true := by decide +kernel
theorem growB_3 : (List.range 11).all (fun k => growB k 3) = true := by decide +kernel
theorem growB_all (k : Nat) (v : Int) : growB k v = true := by
  by_cases hk : k ≤ 10
  · rcases kn_one v with rfl | rfl | rfl | ⟨-, h0⟩
    · exact List.all_eq_true.1 growB_1 k (by simp; omega)
    · exact List.all_eq_true.1 growB_2 k (by simp; omega)
    · exact List.all_eq_true.1 growB_3 k (by simp; omega)
    · unfold growB; rw [ofL_nil _ _ h0]; rfl
  · unfold growB; rw [ofL_kind k v (by omega)]; rfl
theorem getD_get {l : List SRow} {i : Nat} (h : i < l.length) : l.getD i default = l[i] := by
  rw [List.getD_eq_getElem?_getD, List.getElem?_eq_getElem h]; rfl
theorem grow_apart (k : Nat) (v : Int) (i j : Nat) (hi : i < (ofL k v).length) (hj : j < i) : (ofL k v)[j].num < (ofL k v)[i].num ∧ ¬ (sortN (ofL k v)[j].typ = sortN (ofL k v)[i].typ ∧ (ofL k v)[j].slot = (ofL k v)[i].slot) := by
  have h := growB_all k v
  unfold growB at h
  have h1 := List.all_eq_true.1 h i (by simpa using hi)
  rw [Bool.and_eq_true] at h1
  have h2 := List.all_eq_true.1 h1.2 j (by simpa using hj)
  rw [getD_get hi, getD_get (by omega : j < (ofL k v).length)] at h2
  rw [Bool.and_eq_true] at h2
  refine ⟨by simpa using h2.1, fun h3 => ?_⟩
  have h4 := h2.2
  rw [Bool.not_eq_true', decide_eq_false_iff_not] at h4
  exact h4 h3
theorem ofL_le40 (k v : Int) : (ofL k v).length ≤ 40 := by rw [← accL_all]; exact accL_len _ _ _
theorem ofL_mem (k v : Int) {r : SRow} (h : r ∈ ofL k v) : r ∈ ROWS := kn_mem v (List.mem_filter.1 h).1
theorem row_ok {r : SRow} (h : r ∈ ROWS) : 1 ≤ r.kind ∧ r.kind ≤ 10 ∧ 1 ≤ r.since ∧ r.since ≤ 3 ∧ 1 ≤ r.num ∧ r.num ≤ 7 ∧ 1 ≤ r.typ ∧ r.typ ≤ 10 ∧ r.slot ≤ 5 := by
  have h := List.all_eq_true.1 (show ROWS.all (fun r => decide (1 ≤ r.kind ∧ r.kind ≤ 10 ∧ 1 ≤ r.since ∧ r.since ≤ 3 ∧ 1 ≤ r.num ∧ r.num ≤ 7 ∧ 1 ≤ r.typ ∧ r.typ ≤ 10 ∧ r.slot ≤ 5)) = true by decide) r h
  simpa using h
end Go.Proofs.Ytpmfdlghckfgiaa
