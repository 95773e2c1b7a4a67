/- Plain mathematics of layers 1 and 2: no program is named here. · Words for memory: a slice that reads as a list. · A byte's row in the table of types. · A call that writes into one block of what was there, and makes new memory. · A row that grows by append, with the older views of it: what is kept. · append onto a row of elements of any size: the row lies where it lay, or in new memory. -/
import Derived.WalkKit
import Derived.WalkSpells
import Derived.WalkLawsBesides
import Derived.Laws.AppendOwnNone
import Derived.Test.YtejdlhjbakndaaaProg
import Derived.Laws.OwnMore
set_option linter.unusedVariables false
namespace Go.Proofs.Ytejdlhjbakndaaa.M

/-- Get of bytes, i of which were read before, acc their number: number, size, error. -/
def getF (i acc : Nat) : List UInt8 → Nat × Nat × Nat
  | [] => (0, 0, 4)
  | x :: r =>
    if i = 9 then
      if 128 ≤ x.toNat then (0, 0, 2) else if 1 < x.toNat then (0, 0, 1) else (acc + x.toNat * 128 ^ 9, 10, 0)
    else if x.toNat < 128 then (acc + x.toNat * 128 ^ i, i + 1, 0) else getF (i + 1) (acc + (x.toNat - 128) * 128 ^ i) r
def get (b : List UInt8) : Nat × Nat × Nat := getF 0 0 b

theorem pow7 (k : Nat) : (128 : Nat) ^ k = 2 ^ (7 * k) := by rw [Nat.pow_mul]
theorem pow_le9 {k : Nat} (h : k ≤ 9) : (128 : Nat) ^ k ≤ 128 ^ 9 := Nat.pow_le_pow_right (by omega) h
theorem get_num {k acc y : Nat} (hk : k ≤ 9) (ha : acc < 128 ^ k) (hy : y < 128) (h9 : k = 9 → y ≤ 1) :
    acc + y * 128 ^ k ≤ 18446744073709551615 := by
  by_cases h : k = 9
  · subst h
    have := h9 rfl
    have h1 : y * 128 ^ 9 ≤ 1 * 128 ^ 9 := Nat.mul_le_mul_right _ this
    omega
  · have h8 : (128 : Nat) ^ k ≤ 128 ^ 8 := Nat.pow_le_pow_right (by omega) (by omega)
    have h1 : y * 128 ^ k ≤ 127 * 128 ^ 8 := Nat.mul_le_mul (by omega) h8
    omega
theorem get_wrap {k acc y : Nat} (hk : k ≤ 9) (ha : acc < 128 ^ k) (hy : y < 128) (h9 : k = 9 → y ≤ 1) :
    IntKind.u64.wrap ((acc : Int) + IntKind.u64.wrap ((y : Int) * 2 ^ (7 * k))) = ((acc + y * 128 ^ k : Nat) : Int) := by
  have h := get_num hk ha hy h9
  have e : (y : Int) * 2 ^ (7 * k) = ((y * 128 ^ k : Nat) : Int) := by rw [pow7]; simp
  rw [e]
  generalize y * 128 ^ k = z at *
  rw [IntWalk.u64_in (z : Int) (by omega), IntWalk.u64_in _ (by omega)]
  omega
theorem get_wrap9 {acc y : Nat} (ha : acc < 128 ^ 9) (hy : y ≤ 1) :
    IntKind.u64.wrap ((acc : Int) + (y : Int) * 9223372036854775808) = ((acc + y * 128 ^ 9 : Nat) : Int) := by
  rw [IntWalk.u64_in _ (by omega)]
  omega
theorem rget_wrap9 {acc y : Nat} (ha : acc < 128 ^ 9) (hy : y ≤ 1) :
    IntKind.u64.wrap ((acc : Int) + (y : Int) % 128 * 9223372036854775808) = ((acc + y * 128 ^ 9 : Nat) : Int) := by
  rw [show (y : Int) % 128 = y from by omega]
  exact get_wrap9 ha hy
theorem rget_wrap {k acc y : Nat} (hk : k < 9) (ha : acc < 128 ^ k) (hy : y < 256) :
    IntKind.u64.wrap ((acc : Int) + IntKind.u64.wrap ((y : Int) % 128 * ((128 ^ k : Nat) : Int))) = ((acc + y % 128 * 128 ^ k : Nat) : Int) := by
  have h := get_wrap (y := y % 128) (Nat.le_of_lt hk) ha (by omega) (by omega)
  rw [← h, pow7]
  simp
theorem get_mod {y : Nat} (h : 128 ≤ y) (h2 : y < 256) : y % 128 = y - 128 := by omega
theorem get_wrap' {k acc y : Nat} (hk : k < 9) (ha : acc < 128 ^ k) (hy : 128 ≤ y) (hy2 : y < 256) :
    IntKind.u64.wrap ((acc : Int) + IntKind.u64.wrap (((y : Int) - 128) * 2 ^ (7 * k))) = ((acc + (y - 128) * 128 ^ k : Nat) : Int) := by
  have h := get_wrap (y := y - 128) (Nat.le_of_lt hk) ha (by omega) (by omega)
  rw [← h, show (y : Int) - 128 = ((y - 128 : Nat) : Int) from by omega]
theorem get_acc {k acc y : Nat} (ha : acc < 128 ^ k) (hy : y < 256) : acc + (y - 128) * 128 ^ k < 128 ^ (k + 1) := by
  rw [Nat.pow_succ]
  have h1 : (y - 128) * 128 ^ k ≤ 127 * 128 ^ k := Nat.mul_le_mul_right _ (by omega)
  omega
theorem getF_at {bs : List UInt8} {k acc : Nat} (h : k < bs.length) : getF k acc (bs.drop k) =
    if k = 9 then
      if 128 ≤ bs[k].toNat then (0, 0, 2) else if 1 < bs[k].toNat then (0, 0, 1) else (acc + bs[k].toNat * 128 ^ 9, 10, 0)
    else if bs[k].toNat < 128 then (acc + bs[k].toNat * 128 ^ k, k + 1, 0) else getF (k + 1) (acc + (bs[k].toNat - 128) * 128 ^ k) (bs.drop (k + 1)) := by
  rw [List.drop_eq_getElem_cons h, getF]
theorem getF_end {bs : List UInt8} {k acc : Nat} (h : bs.length ≤ k) : getF k acc (bs.drop k) = (0, 0, 4) := by
  rw [List.drop_eq_nil_of_le h, getF]

theorem getF_facts : ∀ (b : List UInt8) (i acc : Nat), i ≤ 9 → acc < 128 ^ i →
    ((getF i acc b).2.2 = 0 → i + 1 ≤ (getF i acc b).2.1 ∧ (getF i acc b).2.1 ≤ 10 ∧ (getF i acc b).2.1 ≤ i + b.length ∧ (getF i acc b).1 ≤ 18446744073709551615) ∧
    ((getF i acc b).2.2 ≠ 0 → (getF i acc b).1 = 0 ∧ (getF i acc b).2.1 = 0 ∧ (getF i acc b).2.2 ≤ 4)
  | [], i, acc, _, _ => by simp [getF]
  | x :: r, i, acc, hi, ha => by
    have hx := x.toNat_lt
    rw [getF]
    split
    · rename_i h9; subst h9
      split
      · simp
      · split
        · simp
        · simp; omega
    · split
      · rename_i h; have := get_num (by omega) ha h (by omega)
        simp; omega
      · have := getF_facts r (i + 1) (acc + (x.toNat - 128) * 128 ^ i) (by omega) (get_acc ha (by omega))
        simp only [List.length_cons]
        refine ⟨fun h => ?_, this.2⟩
        have := this.1 h
        omega
theorem get_facts (b : List UInt8) :
    ((get b).2.2 = 0 → 1 ≤ (get b).2.1 ∧ (get b).2.1 ≤ 10 ∧ (get b).2.1 ≤ b.length ∧ (get b).1 ≤ 18446744073709551615) ∧
    ((get b).2.2 ≠ 0 → (get b).1 = 0 ∧ (get b).2.1 = 0 ∧ (get b).2.2 ≤ 4) := by
  have := getF_facts b 0 0 (by omega) (by simp)
  simpa [get] using this

/-- All of bytes, so many numbers read before, at a place: numbers, error, place. -/
def allF : Nat → List Nat → Nat → List UInt8 → List Nat × Nat × Nat
  | _, acc, _, [] => (acc, 0, 0)
  | 0, acc, _, _ => (acc, 0, 0)
  | f + 1, acc, p, x :: r =>
    if (get (x :: r)).2.2 ≠ 0 then ([], (get (x :: r)).2.2, p) else allF f (acc ++ [(get (x :: r)).1]) (p + (get (x :: r)).2.1) ((x :: r).drop (get (x :: r)).2.1)
def all (b : List UInt8) : List Nat × Nat × Nat := allF b.length [] 0 b
theorem allF_fuel (f : Nat) : ∀ (g : Nat) (acc : List Nat) (p : Nat) (b : List UInt8), b.length ≤ f → b.length ≤ g → allF f acc p b = allF g acc p b := by
  induction f with
  | zero => intro g acc p b hf hg; cases b with | nil => cases g <;> rfl | cons x r => simp at hf
  | succ f ih =>
    intro g acc p b hf hg
    cases b with
    | nil => cases g <;> rfl
    | cons x r =>
      cases g with
      | zero => simp at hg
      | succ g =>
        rw [allF, allF]
        by_cases he : (get (x :: r)).2.2 ≠ 0
        · rw [if_pos he, if_pos he]
        · rw [if_neg he, if_neg he]
          have hk := (get_facts (x :: r)).1 (by omega)
          have hl : ((x :: r).drop (get (x :: r)).2.1).length ≤ r.length := by rw [List.length_drop]; simp at hk ⊢; omega
          simp only [List.length_cons] at hf hg
          exact ih g _ _ _ (by omega) (by omega)
theorem allF_end (f : Nat) (acc : List Nat) (p : Nat) : allF f acc p [] = (acc, 0, 0) := by cases f <;> rfl
/-- One round. -/
theorem allF_err {f p : Nat} {acc : List Nat} {b : List UInt8} (hb : 0 < b.length) (hf : b.length ≤ f) (h : (get b).2.2 ≠ 0) : allF f acc p b = ([], (get b).2.2, p) := by
  cases b with
  | nil => simp at hb
  | cons x r => cases f with
    | zero => simp at hf
    | succ f => rw [allF, if_pos h]
theorem allF_step {f p : Nat} {acc : List Nat} {b : List UInt8} (hb : 0 < b.length) (hf : b.length ≤ f) (h : (get b).2.2 = 0) : allF f acc p b = allF f (acc ++ [(get b).1]) (p + (get b).2.1) (b.drop (get b).2.1) := by
  cases b with
  | nil => simp at hb
  | cons x r => cases f with
    | zero => simp at hf
    | succ f =>
      rw [allF, if_neg (by omega)]
      have hk := (get_facts (x :: r)).1 (by omega)
      have hl : ((x :: r).drop (get (x :: r)).2.1).length ≤ r.length := by rw [List.length_drop]; simp at hk ⊢; omega
      simp only [List.length_cons] at hf
      exact allF_fuel f _ _ _ _ (by omega) (by omega)
end Go.Proofs.Ytejdlhjbakndaaa.M
set_option linter.unusedVariables false
namespace Go.Proofs.Ytejdlhjbakndaaa
open Go.RowKit

theorem hid {p : Prop} (h : p) : Hid p := h
/-- The slice at A reads, in w, as the cells xs. -/
def Rd (w : World) (A : Option Addr) (xs : List Value) : Prop :=
  ∀ k u, xs[k]? = some u → ∃ b off, A = some ⟨b, off, none⟩ ∧ b < w.heap.size ∧ w.cell? ⟨b, off + k, none⟩ = some u
/-- A byte of a number (a name that simp leaves alone). -/
def b8 (n : Nat) : UInt8 := UInt8.ofNat n
theorem b8_toNat {n : Nat} (h : n < 256) : (b8 n).toNat = n := by unfold b8; rw [UInt8.toNat_ofNat']; omega
theorem b8_self (x : UInt8) : b8 x.toNat = x := by unfold b8; exact UInt8.ofNat_toNat
def bv (x : UInt8) : Value := .int .u8 (x.toNat : Int)
theorem bv_b8 (n : Nat) (h : n < 256) : bv (b8 n) = .int .u8 (n : Int) := by simp only [bv, b8_toNat h]
def BRd (w : World) (A : Option Addr) (bs : List UInt8) : Prop := Rd w A (bs.map bv)

theorem Rd.below {w w' : World} {A : Option Addr} {xs : List Value} (h : Rd w A xs) (hb : Below w.heap.size w w') : Rd w' A xs := by
  intro k u hk
  obtain ⟨b, off, rfl, hlt, hc⟩ := h k u hk
  exact ⟨b, off, rfl, Nat.lt_of_lt_of_le hlt hb.size, (hb.cell (p := ⟨b, off + k, none⟩) hlt).trans hc⟩

theorem BRd.at_ {w : World} {A : Option Addr} {bs : List UInt8} (h : BRd w A bs) {k : Nat} (hk : k < bs.length) :
    ∃ b off, A = some ⟨b, off, none⟩ ∧ b < w.heap.size ∧ w.cell? ⟨b, off + k, none⟩ = some (.int .u8 (bs[k].toNat : Int)) :=
  h k (bv bs[k]) (by simp [hk])

def nv (n : Nat) : Value := .int .u64 (n : Int)
def NRd (w : World) (A : Option Addr) (ns : List Nat) : Prop := Rd w A (ns.map nv)
theorem NRd.at_ {w : World} {A : Option Addr} {ns : List Nat} (h : NRd w A ns) {k : Nat} (hk : k < ns.length) :
    ∃ b off, A = some ⟨b, off, none⟩ ∧ b < w.heap.size ∧ w.cell? ⟨b, off + k, none⟩ = some (.int .u64 (ns[k] : Int)) :=
  h k (nv ns[k]) (by simp [hk])
theorem Rd.drewN {w : World} {A : Option Addr} {xs : List Value} (h : Rd w A xs) (n : Nat) : Rd (w.drewN n) A xs := h

/-- A slice with its capacity: what the walk wants of one. -/
structure Sl (w : World) (A : Option Addr) (c : Nat) (xs : List Value) : Prop where
  cap : xs.length ≤ c
  small : c ≤ 9223372036854775807
  nil0 : A = none → c = 0
  rd : Rd w A xs
theorem Sl.below {w w' : World} {A : Option Addr} {c : Nat} {xs : List Value} (h : Sl w A c xs) (hb : Below w.heap.size w w') : Sl w' A c xs := ⟨h.cap, h.small, h.nil0, h.rd.below hb⟩
theorem Sl.nil_ (w : World) : Sl w none 0 [] := ⟨by simp, by omega, fun _ => rfl, fun k u h => by simp at h⟩
theorem Sl.drewN {w : World} {A : Option Addr} {c : Nat} {xs : List Value} (h : Sl w A c xs) (n : Nat) : Sl (w.drewN n) A c xs := ⟨h.cap, h.small, h.nil0, h.rd⟩
/-- A row of the call's own is such a slice. -/
theorem Sl.of_own {w : World} {base e : Nat} {v : Value} {n : Nat} {xs : List Value} (h : w.ownsRow base e 1 v n xs) : ∃ A c, v = .slice A n c ∧ n = xs.length ∧ Sl w A c xs := by
  have hn : xs.length = n := by simpa using h.1
  rcases h.2 with ⟨rfl, rfl⟩ | ⟨g, cap, cur, rfl, hb, hg, hnc, hcm, hcs, htake⟩
  · obtain rfl : xs = [] := List.eq_nil_of_length_eq_zero hn
    exact ⟨none, 0, rfl, rfl, Sl.nil_ w⟩
  · refine ⟨_, cap, rfl, hn.symm, ⟨by omega, hcm, (fun h => by cases h), fun k u hk => ⟨g, 0, rfl, (Array.getElem?_eq_some_iff.1 hg).1, ?_⟩⟩⟩
    have := h.cells (g := g) rfl k u hk
    have hadd : (⟨g, 0, none⟩ : Addr).add k = ⟨g, 0 + k, none⟩ := by unfold Addr.add; split <;> simp_all
    rwa [hadd] at this
/-- A block of cells that is known whole. -/
def Blk (w : World) (g : Nat) (t : TypeId) (cs : Array Value) : Prop := w.heap[g]? = some (.cells cs t (0, 0))
section
variable {w w' : World} {g : Nat} {t : TypeId} {cs : Array Value}
theorem Blk.lt (h : Blk w g t cs) : g < w.heap.size := (Array.getElem?_eq_some_iff.1 h).1
theorem Blk.cell (h : Blk w g t cs) (i : Nat) : w.cell? ⟨g, i, none⟩ = cs[i]? := by unfold Blk at h; simp [World.cell?, h]
theorem Blk.frozen (h : Blk w g t cs) (i : Nat) : w.frozen? ⟨g, i, none⟩ = false := by unfold Blk at h; simp [World.frozen?, h]
theorem Blk.new (w : World) (t : TypeId) (cs : Array Value) : Blk (w.alloc (.cells cs t)) w.heap.size t cs := heap_alloc_new w _
theorem Blk.alloc (h : Blk w g t cs) (o : Obj) : Blk (w.alloc o) g t cs := (Below.heap_alloc w o g h.lt).trans h
theorem Blk.below {B : Nat} (h : Blk w g t cs) (hb : Below B w w') (hg : g < B) : Blk w' g t cs := (hb.block g hg).trans h
theorem Blk.set_ (h : Blk w g t cs) (i : Nat) (u : Value) : Blk (w.setCell ⟨g, i, none⟩ u) g t (cs.setIfInBounds i u) := by
  unfold Blk at h ⊢; simp [World.setCell, Array.getElem?_modify, h]
theorem Blk.far (h : Blk w g t cs) {p : Addr} (hp : g ≠ p.block) (u : Value) : Blk (w.setCell p u) g t cs := (Below.heap_setCell w p u g hp).trans h
end
theorem addr_add (b off k : Nat) : (⟨b, off, none⟩ : Addr).add k = ⟨b, off + k, none⟩ := by unfold Addr.add; split <;> simp_all
theorem Rd.addr {w : World} {a : Addr} {xs : List Value} (h : Rd w (some a) xs) : ∀ j u, xs[j]? = some u → w.cell? (a.add j) = some u := by
  intro j u hj
  obtain ⟨b, off, he, _, hc⟩ := h j u hj
  injection he with he
  rw [he, addr_add]; exact hc
theorem Rd.none_nil {w : World} {xs : List Value} (h : Rd w none xs) : xs = [] := by
  cases xs with
  | nil => rfl
  | cons x r => obtain ⟨b, off, he, _⟩ := h 0 x rfl; cases he
theorem Rd.nil_ (w : World) (A : Option Addr) : Rd w A [] := fun k u h => by simp at h
theorem Rd.drop {w : World} {b off : Nat} {xs : List Value} (h : Rd w (some ⟨b, off, none⟩) xs) (k : Nat) : Rd w (some ⟨b, off + k, none⟩) (xs.drop k) := by
  intro j u hj
  rw [List.getElem?_drop] at hj
  obtain ⟨b', off', he, hlt, hc⟩ := h (k + j) u hj
  injection he with he; injection he with h1 h2; subst h1; subst h2
  exact ⟨b, off + k, rfl, hlt, by rw [Nat.add_assoc]; exact hc⟩
theorem Rd.take {w : World} {A : Option Addr} {xs : List Value} (h : Rd w A xs) (k : Nat) : Rd w A (xs.take k) := by
  intro j u hj
  rw [List.getElem?_take] at hj
  split at hj
  · exact h j u hj
  · cases hj
/-- append onto a row of the call's own, whatever slice the source is -/
theorem wpList_append_rd {P : Program} {w : World} {ops : Array Oper} {rest : List Oper} {o : Oper} {a : Act} {Q : Exit → Act → World → Prop} (hgd : o.guard = none) (s x : Operand) (t : TypeId)
    (ho : o.op = .call { callee := .builtin .append, args := #[s, x], argTypes := #[t, t] })
    (base : Nat) (e : TypeId) (i : TypeInfo) (z : Value) (size bytes : Nat) (ht : P.underlying t = some (.slice e)) (hi : P.info? e = some i) (hz : i.zero = some z)
    (hsize : i.size = size) (hby : i.bytes = bytes) (hzs : z.cells.size = size) (hsz : 0 < size)
    (v : Value) (n : Nat) (xs : List Value) (hs : a.eval s = v) (hown : w.ownsRow base e size v n xs)
    (A : Option Addr) (m c : Nat) (news : List Value) (hx : a.eval x = .slice A m c) (hl : news.length = m * size) (hr : Rd w A news) (hn : A = none → c = 0) (h1 : ∀ u ∈ news, u.oneCell' = true)
    (h63 : n + m ≤ maxLen) (hbytes : (n + m) * bytes ≤ 140737488355328) (hbase : base ≤ w.heap.size)
    (h : ∀ v' w', w'.ownsRow base e size v' (n + m) (xs ++ news) → w.grownBy w' v.ownBlock → wpList P ops Q rest (a.put o.dst v') w') : wpList P ops Q (o :: rest) a w := by
  cases A with
  | none =>
    obtain rfl := hr.none_nil
    obtain rfl := hn rfl
    have hm : m = 0 := by
      have h0 : m * size = 0 := by simpa using hl.symm
      rcases Nat.mul_eq_zero.1 h0 with q | q <;> omega
    subst hm
    exact wpList_append_own_none hgd s x t ho base e i size ht hi v n xs hs hown hx (h v w (by simpa using hown) ⟨rfl, rfl, rfl, Nat.le_refl _, fun _ _ _ => rfl⟩)
  | some ad => exact wpList_append_own w hgd s x t ho base e i z size bytes ht hi hz hsize hby hzs hsz v n xs hs hown ad m c news hx hl hr.addr h1 h63 hbytes hbase fun v' w' h2 h3 _ => h v' w' h2 h3
theorem bw_t {a b c : World} (h : Below a.heap.size a b) (k : Below b.heap.size b c) : Below a.heap.size a c := h.trans (k.mono h.size)
theorem bw_d {a b : World} (h : Below a.heap.size a b) (n : Nat) : Below a.heap.size a (b.drewN n) := ⟨h.os, h.tape, h.output, h.size, h.block⟩
theorem bw_a {a b : World} (h : Below a.heap.size a b) (o : Obj) : Below a.heap.size a (b.alloc o) := h.alloc h.size o
theorem bw_g {a b c : World} {row : Option Nat} (h : Below a.heap.size a b) (hg : b.grownBy c row) (hr : ∀ k, row = some k → a.heap.size ≤ k) : Below a.heap.size a c := h.grown hg h.size hr
theorem bv_one (bs : List UInt8) : ∀ u ∈ bs.map bv, u.oneCell' = true := by
  intro u hu; obtain ⟨b, _, rfl⟩ := List.mem_map.1 hu; simp [bv, Value.oneCell']
theorem nv_one (ns : List Nat) : ∀ u ∈ ns.map nv, u.oneCell' = true := by
  intro u hu; obtain ⟨b, _, rfl⟩ := List.mem_map.1 hu; simp [nv, Value.oneCell']
theorem Rd.of_blk {w : World} {g : Nat} {t : TypeId} {cs : Array Value} (h : Blk w g t cs) : Rd w (some ⟨g, 0, none⟩) cs.toList := by
  intro k u hk
  exact ⟨g, 0, rfl, h.lt, by rw [h.cell]; simpa using hk⟩
theorem Rd.new (w : World) (t : TypeId) (cs : Array Value) : Rd (w.alloc (.cells cs t)) (some ⟨w.heap.size, 0, none⟩) cs.toList := Rd.of_blk (Blk.new w t cs)
theorem own_mono {w : World} {base base' e size n : Nat} {v : Value} {xs : List Value} (h : w.ownsRow base e size v n xs) (hb : base' ≤ base) : w.ownsRow base' e size v n xs := by
  refine ⟨h.1, h.2.imp_right ?_⟩
  rintro ⟨g, cap, cur, hv, hg, r⟩
  exact ⟨g, cap, cur, hv, Nat.le_trans hb hg, r⟩
theorem own_below {w w' : World} {base e size n : Nat} {v : Value} {xs : List Value} (h : w.ownsRow base e size v n xs) (hb : Below w.heap.size w w') : w'.ownsRow base e size v n xs :=
  h.kept (row := none) ⟨hb.os, hb.tape, hb.output, hb.size, fun k hk _ => hb.block k hk⟩ (by cases hv : v.ownBlock <;> simp)
theorem own_two {w : World} {b1 e1 s1 n1 b2 e2 s2 n2 : Nat} {v1 v2 : Value} {xs1 xs2 : List Value} (h1 : w.ownsRow b1 e1 s1 v1 n1 xs1) (h2 : w.ownsRow b2 e2 s2 v2 n2 xs2) (hne : e1 ≠ e2) :
    v1.ownBlock = none ∨ v1.ownBlock ≠ v2.ownBlock := by
  rcases h1.2 with ⟨rfl, _⟩ | ⟨g1, c1, cur1, rfl, _, hg1, _⟩
  · exact .inl rfl
  rcases h2.2 with ⟨rfl, _⟩ | ⟨g2, c2, cur2, rfl, _, hg2, _⟩
  · exact .inr (by simp [Value.ownBlock])
  · refine .inr fun he => ?_
    have hg : g1 = g2 := by simpa [Value.ownBlock] using he
    subst hg
    rw [hg1] at hg2
    injection hg2 with hg2
    injection hg2 with _ ht
    exact hne ht
theorem own_setBelow {w : World} {base e size n : Nat} {v : Value} {xs : List Value} (h : w.ownsRow base e size v n xs) {p : Addr} (hp : p.block < base) (u : Value) : (w.setCell p u).ownsRow base e size v n xs := ownsRow_setCell_below h hp u
theorem eq_of_take {α : Type} {xs ys : List α} {k : Nat} (hl : xs.length = ys.length) (hk : xs.length ≤ k) (h : xs.take k = ys.take k) : xs = ys := by
  rwa [List.take_of_length_le hk, List.take_of_length_le (by omega)] at h
theorem ne_of_get {α : Type} {xs ys : List α} {k : Nat} (h1 : k < xs.length) (h2 : k < ys.length) (h : xs[k] ≠ ys[k]) : xs ≠ ys := by
  rintro rfl; exact h rfl
theorem ret_bool {a b : Bool} (h : a = b) : Ending.returned (.bool a) = .returned (.bool b) := by rw [h]
theorem ret_int {k : IntKind} {a b : Int} (h : a = b) : Ending.returned (.int k a) = .returned (.int k b) := by rw [h]
end Go.Proofs.Ytejdlhjbakndaaa
set_option linter.unusedVariables false
namespace Go.Proofs.Ytejdlhjbakndaaa
theorem Try.info5 : (Try.prog.info? 5).map (fun i => (i.zero, i.size, i.bytes)) = some (some (.int .u8 0), 1, 1) := by kernel_rfl
end Go.Proofs.Ytejdlhjbakndaaa
set_option linter.unusedVariables false
namespace Go.Proofs.Ytejdlhjbakndaaa
open Go.RowKit
/-- Of what w had, w' has all but block q as it was. -/
structure Only (q : Nat) (w w' : World) : Prop where
  os : w'.os = w.os
  tape : w'.tape = w.tape
  output : w'.output = w.output
  size : w.heap.size ≤ w'.heap.size
  block : ∀ k, k < w.heap.size → k ≠ q → w'.heap[k]? = w.heap[k]?
section
variable {q : Nat} {w w' w'' : World}
theorem Only.refl (q : Nat) (w : World) : Only q w w := ⟨rfl, rfl, rfl, Nat.le_refl _, fun _ _ _ => rfl⟩
theorem Only.trans (h : Only q w w') (k : Only q w' w'') : Only q w w'' :=
  ⟨k.os.trans h.os, k.tape.trans h.tape, k.output.trans h.output, Nat.le_trans h.size k.size, fun i hi hq => (k.block i (Nat.lt_of_lt_of_le hi h.size) hq).trans (h.block i hi hq)⟩
theorem Only.of_below (h : Below w.heap.size w w') : Only q w w' := ⟨h.os, h.tape, h.output, h.size, fun k hk _ => h.block k hk⟩
theorem Only.alloc (h : Only q w w') (o : Obj) : Only q w (w'.alloc o) := h.trans (.of_below ((Below.refl _ _).alloc (Nat.le_refl _) _))
theorem Only.drewN (h : Only q w w') (n : Nat) : Only q w (w'.drewN n) := ⟨h.os, h.tape, h.output, h.size, h.block⟩
theorem Only.set_ (h : Only q w w') (i : Nat) (u : Value) : Only q w (w'.setCell ⟨q, i, none⟩ u) := by
  refine ⟨h.os, h.tape, h.output, by simpa [World.setCell] using h.size, fun k hk hq => ?_⟩
  rw [Below.heap_setCell w' ⟨q, i, none⟩ u k hq]
  exact h.block k hk hq
theorem Only.new_ (h : Only q w w') {g : Nat} (hg : w.heap.size ≤ g) (i : Nat) (u : Value) : Only q w (w'.setCell ⟨g, i, none⟩ u) := by
  refine ⟨h.os, h.tape, h.output, by simpa [World.setCell] using h.size, fun k hk hq => ?_⟩
  rw [Below.heap_setCell w' ⟨g, i, none⟩ u k (by show k ≠ g; omega)]
  exact h.block k hk hq
theorem Only.grown (h : Only q w w') {row : Option Nat} (hg : w'.grownBy w'' row) (hr : ∀ k, row = some k → w.heap.size ≤ k) : Only q w w'' := by
  refine ⟨hg.os.trans h.os, hg.tape.trans h.tape, hg.output.trans h.output, Nat.le_trans h.size hg.size, fun k hk hq => ?_⟩
  rw [hg.block k (Nat.lt_of_lt_of_le hk h.size) (fun e => by have := hr k e.symm; omega)]
  exact h.block k hk hq
theorem Only.below {B : Nat} (h : Only q w w') (hq : B ≤ q) (hB : B ≤ w.heap.size) : Below B w w' :=
  ⟨h.os, h.tape, h.output, h.size, fun k hk => h.block k (by omega) (by omega)⟩
theorem Only.blk {g : Nat} {t : TypeId} {cs : Array Value} (h : Only q w w') (hb : Blk w g t cs) (hg : g ≠ q) : Blk w' g t cs := (h.block g hb.lt hg).trans hb
/-- What is read there lies in another block. -/
def Far (A : Option Addr) (n q : Nat) : Prop := 0 < n → ∀ b off, A = some ⟨b, off, none⟩ → b ≠ q
theorem Only.rd {A : Option Addr} {xs : List Value} {n : Nat} (h : Only q w w') (hr : Rd w A xs) (hf : Far A n q) (hn : xs.length = n) : Rd w' A xs := by
  intro k u hk
  have hpos : 0 < n := by have := (List.getElem?_eq_some_iff.1 hk).1; omega
  obtain ⟨b, off, rfl, hlt, hc⟩ := hr k u hk
  refine ⟨b, off, rfl, Nat.lt_of_lt_of_le hlt h.size, ?_⟩
  rw [← hc]
  exact World.cell?_of_block (h.block b hlt (hf hpos b off rfl))
theorem Only.sl {A : Option Addr} {c n : Nat} {xs : List Value} (h : Only q w w') (hs : Sl w A c xs) (hf : Far A n q) (hn : xs.length = n) : Sl w' A c xs := ⟨hs.cap, hs.small, hs.nil0, h.rd hs.rd hf hn⟩
end
theorem Only.of_grown {q : Nat} {w w' : World} (h : w.grownBy w' (some q)) : Only q w w' := ⟨h.os, h.tape, h.output, h.size, fun k hk hq => h.block k hk (by simpa using hq)⟩
end Go.Proofs.Ytejdlhjbakndaaa
set_option linter.unusedVariables false
namespace Go.Proofs.Ytejdlhjbakndaaa
open Go.RowKit
/-- Of what w had, w' has all but the blocks of S as it was. -/
structure Chg (S : Nat → Prop) (w w' : World) : Prop where
  os : w'.os = w.os
  tape : w'.tape = w.tape
  output : w'.output = w.output
  size : w.heap.size ≤ w'.heap.size
  block : ∀ k, k < w.heap.size → ¬ S k → w'.heap[k]? = w.heap[k]?
section
variable {S T : Nat → Prop} {w w' w'' : World}
theorem Chg.refl (S : Nat → Prop) (w : World) : Chg S w w := ⟨rfl, rfl, rfl, Nat.le_refl _, fun _ _ _ => rfl⟩
theorem Chg.trans (h : Chg S w w') (k : Chg S w' w'') : Chg S w w'' :=
  ⟨k.os.trans h.os, k.tape.trans h.tape, k.output.trans h.output, Nat.le_trans h.size k.size, fun i hi hq => (k.block i (Nat.lt_of_lt_of_le hi h.size) hq).trans (h.block i hi hq)⟩
theorem Chg.mono (h : Chg S w w') (hT : ∀ k, k < w.heap.size → S k → T k) : Chg T w w' := ⟨h.os, h.tape, h.output, h.size, fun k hk hq => h.block k hk fun hs => hq (hT k hk hs)⟩
theorem Chg.of_below {B : Nat} (h : Below B w w') (hS : ∀ k, k < w.heap.size → ¬ S k → k < B) : Chg S w w' := ⟨h.os, h.tape, h.output, h.size, fun k hk hq => h.block k (hS k hk hq)⟩
theorem Chg.of_new (h : Below w.heap.size w w') : Chg S w w' := .of_below h fun k hk _ => hk
theorem Chg.of_only {q : Nat} (h : Only q w w') (hq : S q) : Chg S w w' := ⟨h.os, h.tape, h.output, h.size, fun k hk hn => h.block k hk fun e => hn (e ▸ hq)⟩
theorem Chg.of_grown {row : Option Nat} (h : w.grownBy w' row) (hq : ∀ g, row = some g → S g) : Chg S w w' := ⟨h.os, h.tape, h.output, h.size, fun k hk hn => h.block k hk fun e => hn (hq k e.symm)⟩
theorem Chg.set_ (h : Chg S w w') {g : Nat} (hg : S g ∨ w.heap.size ≤ g) (i : Nat) (u : Value) : Chg S w (w'.setCell ⟨g, i, none⟩ u) := by
  refine ⟨h.os, h.tape, h.output, by simpa [World.setCell] using h.size, fun k hk hq => ?_⟩
  rw [Below.heap_setCell w' ⟨g, i, none⟩ u k (by intro e; simp only at e; subst e; rcases hg with hg | hg; exact hq hg; omega)]
  exact h.block k hk hq
theorem Chg.alloc (h : Chg S w w') (o : Obj) : Chg S w (w'.alloc o) := h.trans (.of_new ((Below.refl _ _).alloc (Nat.le_refl _) _))
theorem Chg.drewN (h : Chg S w w') (n : Nat) : Chg S w (w'.drewN n) := ⟨h.os, h.tape, h.output, h.size, h.block⟩
theorem Chg.drew (h : Chg S w w') : Chg S w w'.drew := ⟨h.os, h.tape, h.output, h.size, h.block⟩
theorem Chg.below {B : Nat} (h : Chg S w w') (hS : ∀ k, S k → B ≤ k) (hB : B ≤ w.heap.size) : Below B w w' := ⟨h.os, h.tape, h.output, h.size, fun k hk => h.block k (by omega) fun hs => by have := hS k hs; omega⟩
theorem Chg.blk {g : Nat} {t : TypeId} {cs : Array Value} (h : Chg S w w') (hb : Blk w g t cs) (hg : ¬ S g) : Blk w' g t cs := (h.block g hb.lt hg).trans hb
/-- What is read there lies in no block of S. -/
def FarS (A : Option Addr) (n : Nat) (S : Nat → Prop) : Prop := 0 < n → ∀ b off, A = some ⟨b, off, none⟩ → ¬ S b
theorem Chg.rd {A : Option Addr} {xs : List Value} {n : Nat} (h : Chg S w w') (hr : Rd w A xs) (hf : FarS A n S) (hn : xs.length = n) : Rd w' A xs := by
  intro k u hk
  have hpos : 0 < n := by have := (List.getElem?_eq_some_iff.1 hk).1; omega
  obtain ⟨b, off, rfl, hlt, hc⟩ := hr k u hk
  refine ⟨b, off, rfl, Nat.lt_of_lt_of_le hlt h.size, ?_⟩
  rw [← hc]
  exact World.cell?_of_block (h.block b hlt (hf hpos b off rfl))
theorem Chg.sl {A : Option Addr} {c n : Nat} {xs : List Value} (h : Chg S w w') (hs : Sl w A c xs) (hf : FarS A n S) (hn : xs.length = n) : Sl w' A c xs := ⟨hs.cap, hs.small, hs.nil0, h.rd hs.rd hf hn⟩
theorem FarS.far {A : Option Addr} {n : Nat} (h : FarS A n S) {q : Nat} (hq : S q) : Far A n q := fun hp b off e hb => h hp b off e (hb ▸ hq)
theorem FarS.imp {A : Option Addr} {n : Nat} (h : FarS A n S) (hT : ∀ k, T k → S k) : FarS A n T := fun hp b off e hb => h hp b off e (hT b hb)
end
/-- Older views of a row of v, and all other rows, stay as they were. -/
def Views (e : TypeId) (v : Value) (n : Nat) (w w' : World) : Prop := ∀ B v0 n0 xs0, w.ownsRow B e 1 v0 n0 xs0 → (v0.ownBlock ≠ none → v0.ownBlock = v.ownBlock → n0 ≤ n) → w'.ownsRow B e 1 v0 n0 xs0
/-- A grown row lies where it lay, or in new memory. -/
def NewOr (w : World) (v v' : Value) : Prop := v'.ownBlock = v.ownBlock ∨ ∀ g, v'.ownBlock = some g → w.heap.size ≤ g
theorem views_kept {e : TypeId} {v : Value} {n : Nat} {w w' : World} (h : Below w.heap.size w w') : Views e v n w w' := fun B v0 n0 xs0 h0 _ => own_below h0 h
/-- append onto a row of the call's own: the row, what is kept, and the older views -/
theorem run_append_views {P : Program} (w : World) (base : Nat) (t ty e : TypeId) (i : TypeInfo) (z : Value) (ht : P.underlying t = some (.slice e)) (hi : P.info? e = some i) (hz : i.zero = some z)
    (hsize : i.size = 1) (hby : i.bytes = 1) (hzs : z.cells.size = 1) (v : Value) (n : Nat) (xs : List Value) (hown : w.ownsRow base e 1 v n xs)
    (A : Option Addr) (m c : Nat) (news : List Value) (hl : news.length = m) (hr : Rd w A news) (hn : A = none → c = 0) (h1 : ∀ u ∈ news, u.oneCell' = true)
    (h63 : n + m ≤ 100000000) (hbase : base ≤ w.heap.size) :
    ∃ v' w', (Builtin.append_ #[t, t] ty #[v, .slice A m c]).run P w = .ok v' w' ∧ w'.ownsRow base e 1 v' (n + m) (xs ++ news) ∧ w.grownBy w' v.ownBlock ∧ NewOr w v v' ∧ Views e v n w w' := by
  have hm63 : n + m ≤ maxLen := by simp only [maxLen]; omega
  cases A with
  | none =>
    obtain rfl := hr.none_nil
    obtain rfl := hn rfl
    obtain rfl : m = 0 := by simpa using hl.symm
    have hr := run_append_owned_none w base t ty e i 1 ht hi v n xs hown
    exact ⟨v, w, hr, by simpa using hown, ⟨rfl, rfl, rfl, Nat.le_refl _, fun _ _ _ => rfl⟩, .inl rfl, fun _ _ _ _ h0 _ => h0⟩
  | some ad =>
    by_cases hroom : ∃ g cap, v = .slice (some ⟨g, 0, none⟩) n cap ∧ n + m ≤ cap
    · obtain ⟨g, cap, rfl, hcap⟩ := hroom
      rcases hown.2 with ⟨h, _⟩ | ⟨g', cap', cur, h, hbg, hg, hnc, hcm, hcs, htake⟩
      · simp at h
      simp only [Value.slice.injEq, Option.some.injEq, Addr.mk.injEq, and_true, true_and] at h
      obtain ⟨rfl, rfl⟩ := h
      have hlen : (xs ++ news).length = (n + m) * 1 := by rw [List.length_append, hown.1, hl]; omega
      have hxl : xs.length = n := by simpa using hown.1
      have hfit : n * i.size + news.length ≤ cur.size := by rw [hl, hcs, hsize]; omega
      have hr := run_append_room (P := P) w t ty e i ht hi g n cap cur hg ad m c news (by rw [hl, hsize]; omega) hr.addr h1 hcap hfit
      rw [hsize, Nat.mul_one] at hr
      rw [Nat.mul_one] at htake hcs
      have hrow := setRow_heap w g cur (cur.toList.take n ++ news ++ cur.toList.drop (n + news.length)).toArray e (0, 0) hg
      have hz2 : (cur.toList.take n ++ news ++ cur.toList.drop (n + news.length)).toArray.size = cap := by
        simp only [List.size_toArray, List.length_append, List.length_take, List.length_drop, Array.length_toList]; omega
      have hgb : w.grownBy (w.setRow g (cur.toList.take n ++ news ++ cur.toList.drop (n + news.length)).toArray) (some g) := ⟨rfl, rfl, rfl, by simp, fun k _ hk => setRow_other w g k _ (fun e => hk (by simp [e]))⟩
      refine ⟨_, _, hr, ⟨hlen, .inr ⟨g, cap, _, rfl, hbg, hrow, hcap, hcm, by rw [hz2, Nat.mul_one], ?_⟩⟩, hgb, .inl rfl, ?_⟩
      · rw [htake, ← hlen]; exact List.take_left
      · intro B v0 n0 xs0 h0 hle
        rcases h0.2 with ⟨h, hn0⟩ | ⟨g0, cap0, cur0, rfl, hb0, hg0, hnc0, hcm0, hcs0, htake0⟩
        · exact ⟨h0.1, .inl ⟨h, hn0⟩⟩
        · by_cases hgg : g0 = g
          · subst hgg
            have hle' := hle (by simp [Value.ownBlock]) rfl
            rw [hg] at hg0
            injection hg0 with hg0
            injection hg0 with hg0
            subst hg0
            refine ⟨h0.1, .inr ⟨g0, cap0, _, rfl, hb0, hrow, hnc0, hcm0, by rw [hz2, ← hcs0, hcs], ?_⟩⟩
            have hxs0 : cur.toList.take n0 = xs0 := by rw [← htake0, Nat.mul_one]
            show List.take (n0 * 1) (List.take n cur.toList ++ news ++ List.drop (n + news.length) cur.toList) = xs0
            rw [Nat.mul_one, ← hxs0, List.append_assoc]
            rw [List.take_append_of_le_length (by rw [List.length_take, Array.length_toList]; omega), List.take_take, Nat.min_eq_left hle']
          · exact h0.kept hgb (.inr (by simpa [Value.ownBlock] using hgg))
    · obtain ⟨v', w', hrun, h2, h3, h4⟩ := run_append_own (P := P) w base t ty e i z 1 1 ht hi hz hsize hby hzs (by omega) v n xs hown ad m c news (by rw [hl]; omega) hr.addr h1 hm63 (by omega) hbase
      have hsame : v' = v ∧ w' = w ∨ (Below w.heap.size w w' ∧ ∀ g, v'.ownBlock = some g → w.heap.size ≤ g) := by
        rcases hown.2 with ⟨rfl, rfl⟩ | ⟨g, cap, cur, rfl, hbg, hg, hnc, hcm, hcs, htake⟩
        · have hx : xs = [] := List.eq_nil_of_length_eq_zero (by simpa using hown.1)
          subst hx
          by_cases hm : m = 0
          · subst hm
            have hn : news = [] := List.eq_nil_of_length_eq_zero (by simpa using hl)
            subst hn
            have hq : (Builtin.append_ #[t, t] ty #[.slice none 0 0, .slice (some ad) 0 c]).run P w = .ok (.slice none 0 0) w := by
              simp [Builtin.append_, run_underlying ht, sizeOf, typeInfo, hi, Builtin.lenOf, Builtin.firstCells, loadCells, loadCellsFrom]
            rw [hq] at hrun
            injection hrun with e1 e2
            exact .inl ⟨e1.symm, e2.symm⟩
          · have hq := run_append_nil (P := P) w t ty e i z ht hi hz ad m c news (by rw [hl, hsize]; omega) hr.addr (by omega) (by omega) (by rw [hby]; omega)
            rw [hq] at hrun
            injection hrun with e1 e2
            subst e1; subst e2
            exact .inr ⟨⟨rfl, rfl, rfl, by simp, fun k hk => Below.heap_alloc w.drew _ k hk⟩, fun g e => by simp [Value.ownBlock] at e; omega⟩
        · have hroom' : cap < n + m := by apply Nat.lt_of_not_le; intro h; exact hroom ⟨g, cap, rfl, h⟩
          have holds : ∀ j u, xs[j]? = some u → w.cell? ((⟨g, 0, none⟩ : Addr).add j) = some u := hown.cells (g := g) rfl
          have hq := run_append_grow (P := P) w t ty e i z ht hi hz ⟨g, 0, none⟩ n cap xs (by rw [hown.1, hsize]) holds ad m c news (by rw [hl, hsize]; omega) hr.addr hroom' (by omega) (growslice_fits (by omega) (by rw [hby]; omega))
          rw [hq] at hrun
          injection hrun with e1 e2
          subst e1; subst e2
          exact .inr ⟨⟨rfl, rfl, rfl, by simp, fun k hk => Below.heap_alloc w.drew _ k hk⟩, fun g e => by simp [Value.ownBlock] at e; omega⟩
      rcases hsame with ⟨rfl, rfl⟩ | ⟨hb, hnew⟩
      · exact ⟨v', w', hrun, h2, h3, .inl rfl, fun _ _ _ _ h0 _ => h0⟩
      · exact ⟨v', w', hrun, h2, h3, .inr hnew, views_kept hb⟩
theorem wpList_append_views {P : Program} {w : World} {ops : Array Oper} {rest : List Oper} {o : Oper} {a : Act} {Q : Exit → Act → World → Prop} (hgd : o.guard = none) (s x : Operand) (t : TypeId)
    (ho : o.op = .call { callee := .builtin .append, args := #[s, x], argTypes := #[t, t] })
    (base : Nat) (e : TypeId) (i : TypeInfo) (z : Value) (ht : P.underlying t = some (.slice e)) (hi : P.info? e = some i) (hz : i.zero = some z)
    (hsize : i.size = 1) (hby : i.bytes = 1) (hzs : z.cells.size = 1)
    (v : Value) (n : Nat) (xs : List Value) (hs : a.eval s = v) (hown : w.ownsRow base e 1 v n xs)
    (A : Option Addr) (m c : Nat) (news : List Value) (hx : a.eval x = .slice A m c) (hl : news.length = m) (hr : Rd w A news) (hn : A = none → c = 0) (h1 : ∀ u ∈ news, u.oneCell' = true)
    (h63 : n + m ≤ 100000000) (hbase : base ≤ w.heap.size)
    (h : ∀ v' w', w'.ownsRow base e 1 v' (n + m) (xs ++ news) → w.grownBy w' v.ownBlock → NewOr w v v' → Views e v n w w' → wpList P ops Q rest (a.put o.dst v') w') : wpList P ops Q (o :: rest) a w := by
  refine wpList_plain hgd fun K hK => ?_
  obtain ⟨v', w', hrun, h2, h3, h4, h5⟩ := run_append_views (P := P) w base t o.type e i z ht hi hz hsize hby hzs v n xs hown A m c news hl hr hn h1 h63 hbase
  unfold Oper.wp execOp
  simp only [ho, resolve, invoke, builtin, Sem.run_bind, Sem.run_pure, Result.andThen_ok, List.map_toArray, List.map_cons, List.map_nil, hs, hx, hrun]
  exact hK _ _ (h v' w' h2 h3 h4 h5)
end Go.Proofs.Ytejdlhjbakndaaa
set_option linter.unusedVariables false
namespace Go.Proofs.Ytejdlhjbakndaaa
open Go.RowKit
theorem run_append_new {P : Program} (w : World) (base : Nat) (t ty e : TypeId) (i : TypeInfo) (z : Value) (size bytes : Nat) (ht : P.underlying t = some (.slice e)) (hi : P.info? e = some i) (hz : i.zero = some z)
    (hsize : i.size = size) (hby : i.bytes = bytes) (hzs : z.cells.size = size) (hsz : 0 < size) (v : Value) (n : Nat) (xs : List Value) (hown : w.ownsRow base e size v n xs)
    (ad : Addr) (m c : Nat) (news : List Value) (hl : news.length = m * size) (hr : Rd w (some ad) news) (h1 : ∀ u ∈ news, u.oneCell' = true)
    (h63 : n + m ≤ maxLen) (hbytes : (n + m) * bytes ≤ 140737488355328) (hbase : base ≤ w.heap.size) :
    ∃ v' w', (Builtin.append_ #[t, t] ty #[v, .slice (some ad) m c]).run P w = .ok v' w' ∧ w'.ownsRow base e size v' (n + m) (xs ++ news) ∧ w.grownBy w' v.ownBlock ∧ NewOr w v v' := by
  obtain ⟨v', w', hrun, h2, h3, h4⟩ := run_append_own (P := P) w base t ty e i z size bytes ht hi hz hsize hby hzs hsz v n xs hown ad m c news hl hr.addr h1 h63 hbytes hbase
  refine ⟨v', w', hrun, h2, h3, ?_⟩
  have h63' : n + m ≤ 9223372036854775807 := by simp only [maxLen] at h63; omega
  subst hsize
  subst hby
  rcases hown.2 with ⟨rfl, rfl⟩ | ⟨g, cap, cur, rfl, hbg, hg, hnc, hcm, hcs, htake⟩
  · by_cases hm : m = 0
    · exact .inl (by rw [(h4.2 ⟨rfl, hm⟩)])
    · have hq := run_append_nil (P := P) w t ty e i z ht hi hz ad m c news hl hr.addr (by omega) (by omega) (by have hb := hbytes; simp only [Nat.zero_add] at hb; omega)
      rw [hq] at hrun
      injection hrun with e1 e2
      subst e1
      exact .inr fun g e => by simp [Value.ownBlock] at e; omega
  · by_cases hroom : n + m ≤ cap
    · have hfit : n * i.size + news.length ≤ cur.size := by rw [hl, hcs, ← Nat.add_mul]; exact Nat.mul_le_mul_right _ hroom
      have hq := run_append_room (P := P) w t ty e i ht hi g n cap cur hg ad m c news hl hr.addr h1 hroom hfit
      rw [hq] at hrun
      injection hrun with e1 e2
      subst e1
      exact .inl rfl
    · have holds : ∀ j u, xs[j]? = some u → w.cell? ((⟨g, 0, none⟩ : Addr).add j) = some u := hown.cells (g := g) rfl
      have hq := run_append_grow (P := P) w t ty e i z ht hi hz ⟨g, 0, none⟩ n cap xs hown.1 holds ad m c news hl hr.addr (by omega) (by omega) (growslice_fits (by omega) hbytes)
      rw [hq] at hrun
      injection hrun with e1 e2
      subst e1
      exact .inr fun g e => by simp [Value.ownBlock] at e; omega
theorem wpList_append_new {P : Program} {w : World} {ops : Array Oper} {rest : List Oper} {o : Oper} {a : Act} {Q : Exit → Act → World → Prop} (hgd : o.guard = none) (s x : Operand) (t : TypeId)
    (ho : o.op = .call { callee := .builtin .append, args := #[s, x], argTypes := #[t, t] })
    (base : Nat) (e : TypeId) (i : TypeInfo) (z : Value) (size bytes : Nat) (ht : P.underlying t = some (.slice e)) (hi : P.info? e = some i) (hz : i.zero = some z)
    (hsize : i.size = size) (hby : i.bytes = bytes) (hzs : z.cells.size = size) (hsz : 0 < size)
    (v : Value) (n : Nat) (xs : List Value) (hs : a.eval s = v) (hown : w.ownsRow base e size v n xs)
    (ad : Addr) (m c : Nat) (news : List Value) (hx : a.eval x = .slice (some ad) m c) (hl : news.length = m * size) (hr : Rd w (some ad) news) (h1 : ∀ u ∈ news, u.oneCell' = true)
    (h63 : n + m ≤ maxLen) (hbytes : (n + m) * bytes ≤ 140737488355328) (hbase : base ≤ w.heap.size)
    (h : ∀ v' w', w'.ownsRow base e size v' (n + m) (xs ++ news) → w.grownBy w' v.ownBlock → NewOr w v v' → wpList P ops Q rest (a.put o.dst v') w') : wpList P ops Q (o :: rest) a w := by
  refine wpList_plain hgd fun K hK => ?_
  obtain ⟨v', w', hrun, h2, h3, h4⟩ := run_append_new (P := P) w base t o.type e i z size bytes ht hi hz hsize hby hzs hsz v n xs hown ad m c news hl hr h1 h63 hbytes hbase
  unfold Oper.wp execOp
  simp only [ho, resolve, invoke, builtin, Sem.run_bind, Sem.run_pure, Result.andThen_ok, List.map_toArray, List.map_cons, List.map_nil, hs, hx, hrun]
  exact hK _ _ (h v' w' h2 h3 h4)
/-- Two rows apart stay apart. -/
theorem NewOr.apart {w : World} {v v' u : Value} (h : NewOr w v v') (hne : v.ownBlock = none ∨ v.ownBlock ≠ u.ownBlock) (hu : ∀ g, u.ownBlock = some g → g < w.heap.size) : v'.ownBlock = none ∨ v'.ownBlock ≠ u.ownBlock := by
  rcases h with h | h
  · rw [h]; exact hne
  · cases hv : v'.ownBlock with
    | none => exact .inl rfl
    | some g =>
      refine .inr fun e => ?_
      have h1 := h g hv
      have h2 := hu g e.symm
      omega
end Go.Proofs.Ytejdlhjbakndaaa
