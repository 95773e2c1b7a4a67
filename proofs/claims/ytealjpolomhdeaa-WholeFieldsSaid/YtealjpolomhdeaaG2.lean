/- Opening the arguments of a statement: what came in, as lists. · What came in, whatever its type: cells that read as data are the cells of some value of a Lean type. · varint.Short, tag.Head, and what is awake in layers 1 and 2. · The walks of layer 1's statements. · The walks of VarintBack and VarintAll. · The walk of VarintBack. · The walk of VarintAll. · The walks of layer 2's statements. · The walks of TagBack and TagFixed. · The walk of WholeHeads. · The inlet's own parts: rest, At, Left, number. · The inlet's own parts: At, Left, four, eight, next, counted, head. · The inlet's At. · The inlet's own parts: next, counted. · What the inlet tells: told, at each kind, and the methods that read. · The inlet's methods that read bytes: Bytes, Take. · The inlet's tag: head, told, Tag. · inlet.New, and what a reader that is nil answers. · A region that draws: a call in its midst, and behind it whatever only reads, in one walk. · The table of all fields: plain mathematics. · schema.rows: all fields, one by one. · The document's reader: fault, Varint. · A reader's method under way: the reader, and the fault that it answers in a block of its own. · The document's reader: Fixed, Join, Take. · The document's reader: Take. · The document's reader: Bytes. · The document's reader: Bytes, with where the bytes lie. · The document's Join of any two, and its Bytes. · schema.known: the fields that a version has, one by one. · schema.Of: a kind's fields in a version. · schema.Kinds: the kinds that a version has. · schema.Find: a field of a kind by its number. · The table of all fields, by kinds and versions: plain mathematics. -/
import Derived.Test.YtealjpolomhdeaaG0
import Derived.ProofKit
import Derived.OpenShut
import Derived.ChangeOld
import Derived.Below
import Derived.Test.YtealjpolomhdeaaM2
import Derived.Deep.RegionWith
import Derived.Deep.RegionHeld3
import Derived.Deep.QuietTactic
import Derived.BigQuiet
import Derived.Test.YtealjpolomhdeaaProg
import Derived.StillTailTactics
import Derived.Lib.SliceRun
import Derived.WalkKit
import Derived.IntWalk
import Derived.Sort.QuietIn
set_option linter.unusedVariables false
namespace Go.Proofs.Ytealjpolomhdeaa
open Go.ChangeShapes Go.WideShapes Go.ChangeAt Go.RowKit

theorem wf_u64 {n : Int} (h : (Lit.int .u64 n).wf = true) : 0 ≤ n ∧ n ≤ 18446744073709551615 := by simpa [Lit.wf, IntKind.min, IntKind.max, IntKind.signed, IntKind.bits] using h
theorem wf_i64 {n : Int} (h : (Lit.int .i64 n).wf = true) : -9223372036854775808 ≤ n ∧ n ≤ 9223372036854775807 := by simpa [Lit.wf, IntKind.min, IntKind.max, IntKind.signed, IntKind.bits] using h
theorem wf_u8 {n : Int} (h : (Lit.int .u8 n).wf = true) : 0 ≤ n ∧ n ≤ 255 := by simpa [Lit.wf, IntKind.min, IntKind.max, IntKind.signed, IntKind.bits] using h

section
variable {H : Type} {enc : TypeId × Value → H} {P : Program} {W : World} {base : Nat} {spare : Nat → Bool} {held : Bool} {t e : TypeId} {A : Option Addr} {len cap : Nat} {d : DataW H} {p : List MemPlace}
end
end Go.Proofs.Ytealjpolomhdeaa
set_option linter.unusedVariables false
namespace Go.Proofs.Ytealjpolomhdeaa
open Go.ChangeShapes Go.WideShapes Go.ChangeAt Go.RowKit

/-- Cells of type t that read as data are enc a for some a that is ok. -/
def Opens (P : Program) (W : World) (t : TypeId) {α : Type} (enc : α → List Value) (ok : α → Prop) : Prop :=
  ∀ (H : Type) (en : TypeId × Value → H) (base : Nat) (spare : Nat → Bool) (held : Bool) (fuel : Nat) (cs : List Value) (x : DataW H × List MemPlace),
    DataW.trod en P W base spare held fuel t cs = some x → ∃ a : α, cs = enc a ∧ ok a
/-- A slice of n elements of so many cells each. -/
structure SlN (w : World) (A : Option Addr) (n c size : Nat) (flat : List Value) : Prop where
  len : flat.length = n * size
  cap : n ≤ c
  small : c ≤ 9223372036854775807
  nil0 : A = none → c = 0
  rd : Rd w A flat
theorem SlN.below {w w' : World} {A : Option Addr} {n c size : Nat} {xs : List Value} (h : SlN w A n c size xs) (hb : Below w.heap.size w w') : SlN w' A n c size xs := ⟨h.len, h.cap, h.small, h.nil0, h.rd.below hb⟩
/-- A slice value: where it lies, its capacity, what it holds. -/
structure SlV (α : Type) where
  A : Option Addr
  c : Nat
  xs : List α
section
variable {P : Program} {W : World} {t e : TypeId} {α β : Type}
theorem Opens.use {enc : α → List Value} {ok : α → Prop} (ho : Opens P W t enc ok) {H : Type} {en : TypeId × Value → H} {base : Nat} {spare : Nat → Bool} {held : Bool} {v : Value} {d : DataW H} {p : List MemPlace}
    (h : DataW.Trod en P W base spare held t v d p) : ∃ a, v.cells.toList = enc a ∧ ok a := let ⟨_, hf⟩ := h; ho _ _ _ _ _ _ _ _ hf
theorem opens_int {k : IntKind} (ht : P.underlying t = some (.int k)) : Opens P W t (fun n : Int => [.int k n]) (fun n => (Lit.int k n).wf = true) :=
  fun H en base spare held fuel cs x h => let ⟨n, hc, _, hw⟩ := DataW.trod_int ht h; ⟨n, hc, hw⟩
theorem opens_string (ht : P.underlying t = some .string) : Opens P W t (fun s : ByteArray => [.string s]) (fun s => s.size ≤ 9223372036854775807) :=
  fun H en base spare held fuel cs x h => let ⟨n, hc, _, hw⟩ := DataW.trod_string ht h; ⟨n, hc, hw⟩
theorem Opens.imp {enc : α → List Value} {ok ok' : α → Prop} (h : Opens P W t enc ok) (hi : ∀ a, ok a → ok' a) : Opens P W t enc ok' :=
  fun H en base spare held fuel cs x hx => let ⟨a, hc, ho⟩ := h H en base spare held fuel cs x hx; ⟨a, hc, hi a ho⟩
/-- Another Lean type for the same cells. -/
theorem Opens.map {enc : α → List Value} {ok : α → Prop} {enc' : β → List Value} {ok' : β → Prop} (h : Opens P W t enc ok) (f : α → β) (hi : ∀ a, ok a → enc a = enc' (f a) ∧ ok' (f a)) : Opens P W t enc' ok' :=
  fun H en base spare held fuel cs x hx => let ⟨a, hc, ho⟩ := h H en base spare held fuel cs x hx; ⟨f a, hc.trans (hi a ho).1, (hi a ho).2⟩
theorem flatMap_get {γ : Type} (enc : γ → List Value) (size : Nat) : ∀ (xs : List γ) (i j : Nat) (hi : i < xs.length), (∀ x ∈ xs, (enc x).length = size) → j < size →
    (xs.flatMap enc)[i * size + j]? = (enc xs[i])[j]?
  | [], i, _, hi, _, _ => by simp at hi
  | x :: xs, 0, j, _, h, hj => by
    rw [List.flatMap_cons, Nat.zero_mul, Nat.zero_add, List.getElem?_append_left (by rw [h x (by simp)]; exact hj)]; rfl
  | x :: xs, i + 1, j, hi, h, hj => by
    have hx := h x (by simp)
    rw [List.flatMap_cons, List.getElem?_append_right (by rw [hx, Nat.add_mul]; omega), hx,
      show (i + 1) * size + j - size = i * size + j from by rw [Nat.add_mul]; omega,
      flatMap_get enc size xs i j (by simpa using hi) (fun y hy => h y (by simp [hy])) hj]
    simp
theorem flatMap_length {γ : Type} (enc : γ → List Value) (size : Nat) : ∀ (xs : List γ), (∀ x ∈ xs, (enc x).length = size) → (xs.flatMap enc).length = xs.length * size
  | [], _ => by simp
  | x :: xs, h => by rw [List.flatMap_cons, List.length_append, h x (by simp), flatMap_length enc size xs (fun y hy => h y (by simp [hy])), List.length_cons, Nat.add_mul]; omega
theorem list_choose {γ : Type} {n : Nat} {p : Nat → γ → Prop} (h : ∀ i, i < n → ∃ a, p i a) : ∃ l : List γ, l.length = n ∧ ∀ i (hi : i < l.length), p i l[i] := by
  induction n with
  | zero => exact ⟨[], rfl, fun i hi => by simp at hi⟩
  | succ n ih =>
    obtain ⟨l, hl, hp⟩ := ih fun i hi => h i (by omega)
    obtain ⟨a, ha⟩ := h n (by omega)
    refine ⟨l ++ [a], by simp [hl], fun i hi => ?_⟩
    by_cases hin : i < l.length
    · rw [List.getElem_append_left hin]; exact hp i hin
    · obtain rfl : i = n := by simp [hl] at hi; omega
      rw [List.getElem_append_right (by omega)]; simpa [hl] using ha
theorem opens_slice {size : Nat} {enc : α → List Value} {ok : α → Prop} (ht : P.underlying t = some (.slice e)) (hc : P.cellsOf e = size) (hsz : 0 < size) (hlen : ∀ a, (enc a).length = size) (he : Opens P W e enc ok) :
    Opens P W t (fun s : SlV α => [.slice s.A s.xs.length s.c]) (fun s => (∀ x ∈ s.xs, ok x) ∧ SlN W s.A s.xs.length s.c size (s.xs.flatMap enc)) := by
  intro H en base spare held fuel cs x h
  rcases DataW.trod_slice ht h with ⟨rfl, _⟩ | ⟨a, len, cap, elems, rest, n, _, rfl, _, hb, hl, hm, hel, hat, _, _⟩
  · exact ⟨⟨none, 0, []⟩, rfl, by simp, ⟨by simp, by simp, by simp, fun _ => rfl, fun k u hk => by simp at hk⟩⟩
  · have each : ∀ i, i < len → ∃ v : α, ok v ∧ ∀ j, j < size → W.cell? (a.add (i * size + j)) = (enc v)[j]? := by
      intro i hi
      have hh := hat i hi
      rw [List.getElem?_eq_getElem (by omega), hc, Option.bind_eq_some_iff] at hh
      obtain ⟨cs', hcs, hy⟩ := hh
      obtain ⟨v, hv, hok⟩ := he _ _ _ _ _ _ _ _ hy
      obtain ⟨_, hcl, hcell⟩ := World.cells?_some hcs
      refine ⟨v, hok, fun j hj => ?_⟩
      have := hcell j hj
      rw [hv] at this
      rw [← this]
      congr 1
      unfold Addr.add
      by_cases h1 : i * size = 0 <;> by_cases h2 : j = 0 <;> simp [h1, h2, Nat.add_assoc] <;> omega
    obtain ⟨l, hll, hp⟩ := list_choose each
    have hle : ∀ x ∈ l, (enc x).length = size := fun x _ => hlen x
    refine ⟨⟨some a, cap, l⟩, by show _ = [Value.slice (some a) l.length cap]; rw [hll], ?_, ⟨flatMap_length enc size l hle, (by show l.length ≤ cap; rw [hll]; exact hl), hm, (fun h => by cases h), fun k u hk => ?_⟩⟩
    · intro x hx
      obtain ⟨i, hi, rfl⟩ := List.getElem_of_mem hx
      exact (hp i hi).1
    · have hk2 := (List.getElem?_eq_some_iff.1 hk).1
      rw [flatMap_length enc size l hle] at hk2
      have hi : k / size < l.length := Nat.div_lt_of_lt_mul (by rw [Nat.mul_comm]; exact hk2)
      have hj : k % size < size := Nat.mod_lt _ hsz
      have hkk : k / size * size + k % size = k := by rw [Nat.mul_comm]; exact Nat.div_add_mod k size
      have g := flatMap_get enc size l (k / size) (k % size) hi hle hj
      rw [hkk, hk] at g
      have hcell := (hp (k / size) hi).2 (k % size) hj
      rw [hkk, ← g] at hcell
      have hlt := World.block_lt_of_cell? W _ hcell
      obtain ⟨b, off, spot⟩ := a
      cases spot with
      | none => exact ⟨b, off, rfl, by rwa [addr_add] at hlt, by rwa [addr_add] at hcell⟩
      | some s =>
        have hl0 : 0 < l.length := Nat.lt_of_le_of_lt (Nat.zero_le _) hi
        have h0 := (hp 0 hl0).2 0 hsz
        have h1 : ∃ u, (enc (l[0]'hl0))[0]? = some u := ⟨_, List.getElem?_eq_getElem (by rw [hlen]; exact hsz)⟩
        obtain ⟨u, hu⟩ := h1
        rw [hu] at h0
        simp [World.cell?, Addr.add] at h0
        split at h0 <;> simp at h0
end
end Go.Proofs.Ytealjpolomhdeaa
set_option linter.unusedVariables false
namespace Go.Proofs.Ytealjpolomhdeaa
open Go.RowKit
theorem mk_facts (n x : Int) (h0 : 0 ≤ x) (h1 : x ≤ 255) : 0 ≤ (mk n x).1 ∧ (mk n x).1 ≤ 4294967295 ∧ 0 ≤ (mk n x).2 ∧ (mk n x).2 ≤ 7 := by
  unfold mk
  split
  · simp
  · split
    · simp
    · rename_i h h'
      have := wireB_lt (x := x) (by simpa using h')
      simp; omega
end Go.Proofs.Ytealjpolomhdeaa
set_option linter.unusedVariables false
namespace Go.Proofs.Ytealjpolomhdeaa
open Go.RowKit
theorem putN_size (n : Nat) : (putN n).length = sizeN n := by
  induction n using Nat.strongRecOn with
  | _ n ih =>
    rw [sizeN]
    by_cases h : n < 128
    · rw [if_pos h, putN_small h]; rfl
    · rw [if_neg h, putN_big h, List.length_cons, ih (n / 128) (by omega)]; omega
end Go.Proofs.Ytealjpolomhdeaa
set_option linter.unusedVariables false
namespace Go.Proofs.Ytealjpolomhdeaa
open Go.RowKit
/-- What is read of a number's bytes, whatever stands behind. -/
theorem getF_put (n : Nat) (rest : List UInt8) : ∀ i acc, i ≤ 9 → acc + n * 128 ^ i ≤ 18446744073709551615 →
    M.getF i acc (putN n ++ rest) = (acc + n * 128 ^ i, i + (putN n).length, 0) := by
  induction n using Nat.strongRecOn with
  | _ n ih =>
    intro i acc hi h
    by_cases hs : n < 128
    · rw [putN_small hs]
      simp only [List.cons_append, List.nil_append, M.getF, b8_toNat (show n < 256 by omega), List.length_cons, List.length_nil]
      by_cases h9 : i = 9
      · subst h9
        have : n ≤ 1 := by omega
        rw [if_pos rfl, if_neg (by omega), if_neg (by omega)]
      · rw [if_neg h9, if_pos hs]
    · rw [putN_big hs]
      simp only [List.cons_append, M.getF, b8_toNat (show n % 128 + 128 < 256 by omega), List.length_cons]
      have h9 : i ≠ 9 := by
        rintro rfl
        have : n * 128 ^ 9 ≥ 128 * 128 ^ 9 := Nat.mul_le_mul_right _ (by omega)
        omega
      have e1 : acc + (n % 128 + 128 - 128) * 128 ^ i + n / 128 * 128 ^ (i + 1) = acc + n * 128 ^ i := by
        rw [Nat.pow_succ, Nat.add_sub_cancel, Nat.mul_comm (128 ^ i) 128, ← Nat.mul_assoc, Nat.add_assoc, ← Nat.add_mul]
        congr 2; omega
      rw [if_neg h9, if_neg (by omega), ih (n / 128) (by omega) (i + 1) _ (by omega) (by rw [e1]; exact h), e1]
      congr 2; omega
theorem get_put {n : Nat} (rest : List UInt8) (h : n ≤ 18446744073709551615) : M.get (putN n ++ rest) = (n, (putN n).length, 0) := by
  have := getF_put n rest 0 0 (by omega) (by omega)
  simpa [M.get] using this
/-- What is short is written as it stood. -/
theorem put_getF : ∀ (b : List UInt8) (i acc : Nat), i ≤ 9 → acc < 128 ^ i → (M.getF i acc b).2.2 = 0 → 
    ∃ v, (M.getF i acc b).1 = acc + v * 128 ^ i ∧ i + sizeN v ≤ (M.getF i acc b).2.1 ∧ (i + sizeN v = (M.getF i acc b).2.1 → putN v = b.take ((M.getF i acc b).2.1 - i))
  | [], i, acc, _, _, h => by simp [M.getF] at h
  | x :: r, i, acc, hi, ha, h => by
    have hx := x.toNat_lt
    rw [M.getF] at h ⊢
    by_cases h9 : i = 9
    · subst h9
      rw [if_pos rfl] at h ⊢
      by_cases h1 : 128 ≤ x.toNat
      · rw [if_pos h1] at h; simp at h
      · by_cases h2 : 1 < x.toNat
        · rw [if_neg h1, if_pos h2] at h; simp at h
        · rw [if_neg h1, if_neg h2]
          refine ⟨x.toNat, rfl, by rw [sizeN, if_pos (by omega)]; simp, fun _ => ?_⟩
          rw [putN_small (by omega), b8_self]; rfl
    · rw [if_neg h9] at h ⊢
      by_cases h1 : x.toNat < 128
      · rw [if_pos h1]
        refine ⟨x.toNat, rfl, by rw [sizeN, if_pos h1]; simp, fun _ => ?_⟩
        rw [putN_small h1, b8_self]; simp
      · rw [if_neg h1] at h ⊢
        obtain ⟨v, hv, hs, hp⟩ := put_getF r (i + 1) _ (by omega) (M.get_acc ha hx) h
        by_cases hv0 : v = 0
        · subst hv0
          refine ⟨x.toNat - 128, by rw [hv]; simp, ?_, fun he => ?_⟩
          · rw [sizeN, if_pos (by omega)]; rw [sizeN, if_pos (by omega)] at hs; omega
          · rw [sizeN, if_pos (by omega)] at he hs; omega
        · have hsz : sizeN (x.toNat - 128 + v * 128) = 1 + sizeN v := by
            rw [sizeN, if_neg (by omega), show (x.toNat - 128 + v * 128) / 128 = v from by omega]
          refine ⟨x.toNat - 128 + v * 128, ?_, by rw [hsz]; omega, fun he => ?_⟩
          · rw [hv, Nat.pow_succ, Nat.add_mul, Nat.mul_assoc, Nat.mul_comm 128 (128 ^ i)]; omega
          · rw [hsz] at he
            have := hp (by omega)
            rw [putN_big (by omega), show (x.toNat - 128 + v * 128) / 128 = v from by omega, this, show (x.toNat - 128 + v * 128) % 128 + 128 = x.toNat from by omega, b8_self]
            have hk := (M.getF_facts r (i + 1) _ (by omega) (M.get_acc ha hx)).1 h
            obtain ⟨j, hj⟩ : ∃ j, (M.getF (i + 1) (acc + (x.toNat - 128) * 128 ^ i) r).2.1 - i = j + 1 := ⟨(M.getF (i + 1) (acc + (x.toNat - 128) * 128 ^ i) r).2.1 - i - 1, by omega⟩
            rw [hj, List.take_succ_cons, show (M.getF (i + 1) (acc + (x.toNat - 128) * 128 ^ i) r).2.1 - (i + 1) = j from by omega]
end Go.Proofs.Ytealjpolomhdeaa
set_option linter.unusedVariables false
namespace Go.Proofs.Ytealjpolomhdeaa
open Go.RowKit
end Go.Proofs.Ytealjpolomhdeaa
set_option linter.unusedVariables false
namespace Go.Proofs.Ytealjpolomhdeaa
open Go.RowKit
def flat (ns : List Nat) : List UInt8 := ns.flatMap putN
end Go.Proofs.Ytealjpolomhdeaa
set_option linter.unusedVariables false
namespace Go.Proofs.Ytealjpolomhdeaa
open Go.RowKit
end Go.Proofs.Ytealjpolomhdeaa
set_option linter.unusedVariables false
namespace Go.Proofs.Ytealjpolomhdeaa
open Go.RowKit
theorem mk_ok_inv {n x : Int} (h : (mk n x).2 = 0) : 1 ≤ n ∧ n ≤ 536870911 ∧ wireB x = true ∧ mk n x = (8 * n + x, 0) := by
  unfold mk at h ⊢
  split
  · rename_i h'; rw [if_pos h'] at h; simp at h
  · rename_i h'; rw [if_neg h'] at h
    split
    · rename_i h''; rw [if_pos h''] at h; simp at h
    · rename_i h''; exact ⟨by omega, by omega, by simpa using h'', rfl⟩
theorem spl_mk {n x : Int} (h : (mk n x).2 = 0) : spl (mk n x).1 = (n, x, 0) := by
  obtain ⟨h1, h2, hw, he⟩ := mk_ok_inv h
  have hl := wireB_lt hw
  rw [he]
  have e1 : (8 * n + x) / 8 = n := by omega
  have e2 : (8 * n + x) % 8 = x := by omega
  have := spl_ok (n := 8 * n + x) (by rw [e1]; exact h1) (by rw [e1]; exact h2) (by rw [e2]; exact hw)
  rw [this, e1, e2]
theorem spl_ok_inv {n : Int} (h : (spl n).2.2 = 0) : 1 ≤ n / 8 ∧ n / 8 ≤ 536870911 ∧ wireB (n % 8) = true ∧ spl n = (n / 8, n % 8, 0) := by
  unfold spl at h ⊢
  split
  · rename_i h'; rw [if_pos h'] at h; simp at h
  · rename_i h'; rw [if_neg h'] at h
    split
    · rename_i h''; rw [if_pos h''] at h; simp at h
    · rename_i h''; exact ⟨by omega, by omega, by simpa using h'', rfl⟩
theorem mk_spl {n : Int} (h : (spl n).2.2 = 0) : mk (spl n).1 (spl n).2.1 = (n, 0) := by
  obtain ⟨h1, h2, hw, he⟩ := spl_ok_inv h
  rw [he, mk_ok h1 h2 hw]
  congr 1; omega
end Go.Proofs.Ytealjpolomhdeaa
set_option linter.unusedVariables false
namespace Go.Proofs.Ytealjpolomhdeaa
open Go.RowKit
theorem Sl.of_own' {w : World} {base e : Nat} {A : Option Addr} {n m c : Nat} {xs : List Value} (h : w.ownsRow base e 1 (.slice A n c) m xs) : Sl w A c xs := by
  obtain ⟨A', c', hv, _, hs⟩ := Sl.of_own h
  injection hv with h1 h2 h3
  subst h1; subst h3; exact hs
theorem SlN.of_own {w : World} {base e size n : Nat} {v : Value} {xs : List Value} (hsz : 0 < size) (h : w.ownsRow base e size v n xs) : ∃ A c, v = .slice A n c ∧ SlN w A n c size xs := by
  rcases h.2 with ⟨rfl, rfl⟩ | ⟨g, cap, cur, rfl, hb, hg, hnc, hcm, hcs, htake⟩
  · have hx : xs = [] := List.eq_nil_of_length_eq_zero (by simpa using h.1)
    subst hx
    exact ⟨none, 0, rfl, ⟨by simp, by omega, by omega, fun _ => rfl, Rd.nil_ w _⟩⟩
  · refine ⟨_, cap, rfl, ⟨h.1, hnc, hcm, (fun h => by cases h), fun k u hk => ⟨g, 0, rfl, (Array.getElem?_eq_some_iff.1 hg).1, ?_⟩⟩⟩
    have := h.cells (g := g) rfl k u hk
    rwa [addr_add] at this
end Go.Proofs.Ytealjpolomhdeaa
set_option linter.unusedVariables false
namespace Go.Proofs.Ytealjpolomhdeaa
open Go.RowKit
/-- A reader of type t in block q: its bytes and its place. -/
structure Rin (t : TypeId) (w : World) (q : Nat) (A : Option Addr) (c : Nat) (bs : List UInt8) (p : Nat) : Prop where
  blk : Blk w q t #[.slice A bs.length c, .int .i64 (p : Int)]
  sl : Sl w A c (bs.map bv)
  le : p ≤ bs.length
  far : Far A bs.length q
theorem Rin.cap {t : TypeId} {w : World} {q : Nat} {A : Option Addr} {c : Nat} {bs : List UInt8} {p : Nat} (h : Rin t w q A c bs p) : bs.length ≤ c := by have := h.sl.cap; simpa using this
theorem Rin.move {t : TypeId} {w w' : World} {q : Nat} {A : Option Addr} {c : Nat} {bs : List UInt8} {p p' : Nat} (h : Rin t w q A c bs p) (ho : Only q w w') (hb : Blk w' q t #[.slice A bs.length c, .int .i64 (p' : Int)]) (hp : p' ≤ bs.length) : Rin t w' q A c bs p' :=
  ⟨hb, ho.sl h.sl h.far (by simp), hp, h.far⟩
theorem Rin.other {t : TypeId} {w w' : World} {q q' : Nat} {A : Option Addr} {c : Nat} {bs : List UInt8} {p : Nat} (h : Rin t w q A c bs p) (ho : Only q' w w') (hq : q ≠ q') (hf : Far A bs.length q') : Rin t w' q A c bs p :=
  ⟨ho.blk h.blk hq, ho.sl h.sl hf (by simp), h.le, h.far⟩
theorem Rin.below {t : TypeId} {w w' : World} {q : Nat} {A : Option Addr} {c : Nat} {bs : List UInt8} {p : Nat} (h : Rin t w q A c bs p) (hb : Below w.heap.size w w') : Rin t w' q A c bs p :=
  ⟨h.blk.below hb h.blk.lt, h.sl.below hb, h.le, h.far⟩
/-- The slice from a place on, as the model cuts it. -/
def cutA (A : Option Addr) (c p : Nat) : Option Addr := if c = p then A else A.map fun a => a.add p
theorem Sl.cut {w : World} {A : Option Addr} {c : Nat} {bs : List UInt8} (h : Sl w A c (bs.map bv)) (p : Nat) (hp : p ≤ bs.length) : Sl w (cutA A c p) (c - p) ((bs.drop p).map bv) := by
  have hc := h.cap
  simp only [List.length_map] at hc
  refine ⟨by simp; omega, by have := h.small; omega, ?_, ?_⟩
  · intro hn
    unfold cutA at hn
    split at hn
    · have := h.nil0 hn; omega
    · cases A with
      | none => have := h.nil0 rfl; omega
      | some a => simp at hn
  · unfold cutA
    split
    · rename_i he
      have : p = bs.length := by omega
      subst this
      rw [List.drop_length]; exact Rd.nil_ _ _
    · cases A with
      | none => have := h.rd.none_nil; simp at this; subst this; simp; exact Rd.nil_ _ _
      | some a =>
        intro j u hj
        obtain ⟨b, off, he, hl, hcell⟩ := h.rd (p + j) u (by rw [← List.getElem?_drop, ← List.map_drop]; exact hj)
        injection he with he
        subst he
        refine ⟨b, off + p, ?_, hl, by rw [Nat.add_assoc]; exact hcell⟩
        simp [addr_add]
theorem Far.cut {w : World} {A : Option Addr} {q c p n : Nat} {bs : List UInt8} (h : Far A bs.length q) (hs : Sl w A c (bs.map bv)) (hn : n ≤ bs.length) : Far (cutA A c p) n q := by
  intro hpos b off he
  obtain ⟨b', off', hA, _⟩ := hs.rd 0 (bv (bs[0]'(by omega))) (by simp [List.getElem?_eq_getElem (show 0 < bs.length by omega)])
  subst hA
  have hne := h (by omega) b' off' rfl
  unfold cutA at he
  split at he
  · injection he with he; injection he with h1 h2; omega
  · simp only [Option.map_some, addr_add] at he
    injection he with he; injection he with h1 h2; omega
set_option maxRecDepth 100000 in
set_option maxHeartbeats 1000000 in
theorem irest_any (w : World) (q : Nat) (A : Option Addr) (c : Nat) (bs : List UInt8) (p : Nat) (h : Rin 152 w q A c bs p) :
    Calls Try.prog 137 #[.pointer (some ⟨q, 0, none⟩)] w fun e w' => e = .returned (.slice (cutA A c p) (bs.length - p) (c - p)) ∧ ∃ n, w' = w.drewN n := by
  have hcap := h.cap
  have hsm := h.sl.small
  have hle := h.le
  have c0 := h.blk.cell 0
  have c1 := h.blk.cell 1
  simp at c0 c1
  generalize bs.length = n at *
  go_enter Try.func137, Try.ntmps137
  go_wp2
  go_quiet (fail)
  go_wp2
  · go_ret
    exact ⟨by simp [cutA], _, rfl⟩
  · go_ret
    exact ⟨by simp [cutA]; intro e; exact absurd e ‹_›, _, rfl⟩
set_option maxRecDepth 100000 in
set_option maxHeartbeats 1000000 in
theorem inum_any (w : World) (q : Nat) (A : Option Addr) (c : Nat) (bs : List UInt8) (p : Nat) (h : Rin 152 w q A c bs p) :
    Calls Try.prog 122 #[.pointer (some ⟨q, 0, none⟩)] w fun e w' => e = .returned (.tuple #[.int .u64 (M.get (bs.drop p)).1, .int .i64 (M.get (bs.drop p)).2.2]) ∧ Rin 152 w' q A c bs (p + (M.get (bs.drop p)).2.1) ∧ Only q w w' := by
  have hcap := h.cap
  have hsm := h.sl.small
  have hle := h.le
  have hf := M.get_facts (bs.drop p)
  have hk : (M.get (bs.drop p)).2.1 ≤ bs.length - p := by
    by_cases he : (M.get (bs.drop p)).2.2 = 0
    · have := (hf.1 he).2.2.1; simpa using this
    · have := (hf.2 he).2.1; omega
  have hget := fun n => get_at (bs.drop p) (bs.length - p) (cutA A c p) (c - p) (w.drewN n) (by simp) (by omega) ((h.sl.cut p hle).rd.drewN n)
  have hrest := irest_any w q A c bs p h
  generalize M.get (bs.drop p) = g at *
  obtain ⟨v, k, e⟩ := g
  simp only at hk hget
  have HG := hid hget
  have HR := hid hrest
  have HRin := hid h
  have b1 := h.blk
  have l1 := b1.lt
  clear hget hrest hf h
  have c1 : w.cell? ⟨q, 1, none⟩ = some (.int .i64 (p : Int)) := by simpa using b1.cell 1
  have f1 := b1.frozen 1
  have B1 := hid b1
  clear b1
  generalize hN : bs.length = N at *
  go_enter Try.func122, Try.ntmps122
  go_wp2_with fail
  refine HR.out.mono ?_
  rintro e1 w1 ⟨rfl, n, rfl⟩
  go_wp2_with fail
  refine (HG.out n).mono ?_
  rintro e2 w2 ⟨rfl, rfl⟩
  go_wp2_with fail
  go_ret2
  have ho : Only q w ((w.drewN n).setCell ⟨q, 1, none⟩ (.int .i64 ((p : Int) + (k : Int)))) := ((Only.refl q w).drewN n).set_ 1 _
  refine ⟨rfl, ?_, ho⟩
  have hb2 : Blk (w.drewN n) q 152 #[.slice A N c, .int .i64 (p : Int)] := B1.out
  have hb3 := hb2.set_ 1 (.int .i64 ((p : Int) + (k : Int)))
  refine HRin.out.move ho ?_ (by omega)
  simpa [hN] using hb3
end Go.Proofs.Ytealjpolomhdeaa
set_option linter.unusedVariables false
namespace Go.Proofs.Ytealjpolomhdeaa
open Go.RowKit
theorem ileft_any (w : World) (q : Nat) (A : Option Addr) (c : Nat) (bs : List UInt8) (p : Nat) (h : Rin 152 w q A c bs p) :
    Calls Try.prog 72 #[.pointer (some ⟨q, 0, none⟩)] w fun e w' => e = .returned (.int .i64 ((bs.length - p : Nat) : Int)) ∧ ∃ n, w' = w.drewN n := by
  have hcap := h.cap
  have hsm := h.sl.small
  have hle := h.le
  have c0 := h.blk.cell 0
  have c1 := h.blk.cell 1
  simp at c0 c1
  clear h
  generalize bs.length = n at *
  have hc : ((n - p : Nat) : Int) = (n : Int) - (p : Int) := by omega
  have HC := hid hc
  clear hc
  go_enter Try.func72, Try.ntmps72
  go_wp2
  go_quiet (fail)
  go_wp2
  go_ret
  exact ⟨ret_int (by rw [HC.out]), _, rfl⟩
/-- So many bytes, read as a number: it, what is wrong, and the place behind. -/
def rFix (k : Nat) (bs : List UInt8) (p : Nat) : Nat × Nat × Nat := if bs.length - p < k then (0, 4, p) else (unfixN ((bs.drop p).take k), 0, p + k)
theorem g32_at (bs : List UInt8) (n : Nat) (A : Option Addr) (c : Nat) (w : World) (hn : bs.length = n) (hR : Sl w A c (bs.map bv)) :
    Calls Try.prog 140 #[.slice A n c] w fun e w' => e = .returned (.tuple #[.int .u32 (if n < 4 then 0 else unfixN (bs.take 4)), .int .i64 (if n < 4 then 4 else 0)]) ∧ w = w' := by
  subst hn; exact get32_any bs A c w hR
theorem g64_at (bs : List UInt8) (n : Nat) (A : Option Addr) (c : Nat) (w : World) (hn : bs.length = n) (hR : Sl w A c (bs.map bv)) :
    Calls Try.prog 138 #[.slice A n c] w fun e w' => e = .returned (.tuple #[.int .u64 (if n < 8 then 0 else unfixN (bs.take 8)), .int .i64 (if n < 8 then 4 else 0)]) ∧ w = w' := by
  subst hn; exact get64_any bs A c w hR
set_option maxRecDepth 100000 in
set_option maxHeartbeats 1000000 in
theorem ifour_any (w : World) (q : Nat) (A : Option Addr) (c : Nat) (bs : List UInt8) (p : Nat) (h : Rin 152 w q A c bs p) :
    Calls Try.prog 128 #[.pointer (some ⟨q, 0, none⟩)] w fun e w' => e = .returned (.tuple #[.int .u32 ((rFix 4 bs p).1 : Nat), .int .i64 ((rFix 4 bs p).2.1 : Nat)]) ∧ Rin 152 w' q A c bs (rFix 4 bs p).2.2 ∧ Only q w w' := by
  have hcap := h.cap
  have hsm := h.sl.small
  have hle := h.le
  have hget := fun n => g32_at (bs.drop p) (bs.length - p) (cutA A c p) (c - p) (w.drewN n) (by simp) ((h.sl.cut p hle).drewN n)
  have hrest := irest_any w q A c bs p h
  have hr : rFix 4 bs p = if bs.length - p < 4 then (0, 4, p) else (unfixN ((bs.drop p).take 4), 0, p + 4) := rfl
  have HR := hid hrest
  have HRin := hid h
  have b1 := h.blk
  have l1 := b1.lt
  clear hrest h
  have c1 : w.cell? ⟨q, 1, none⟩ = some (.int .i64 (p : Int)) := by simpa using b1.cell 1
  have f1 := b1.frozen 1
  have B1 := hid b1
  clear b1
  generalize hN : bs.length = N at *
  by_cases hlt : N - p < 4
  · rw [if_pos hlt] at hr
    simp only [hlt, if_true] at hget
    rw [hr]
    have HG := hid hget
    clear hget hr
    go_enter Try.func128, Try.ntmps128
    go_wp2_with fail
    refine HR.out.mono ?_
    rintro e1 w1 ⟨rfl, n, rfl⟩
    go_wp2_with fail
    refine (HG.out n).mono ?_
    rintro e2 w2 ⟨rfl, rfl⟩
    go_wp2_with fail
    go_ret2
    exact ⟨rfl, HRin.out.move ((Only.refl q w).drewN n) (by rw [hN]; exact B1.out) (by omega), (Only.refl q w).drewN n⟩
  · rw [if_neg hlt] at hr
    simp only [hlt, if_false] at hget
    rw [hr]
    generalize unfixN ((bs.drop p).take 4) = v at *
    have HG := hid hget
    clear hget hr
    go_enter Try.func128, Try.ntmps128
    go_wp2_with fail
    refine HR.out.mono ?_
    rintro e1 w1 ⟨rfl, n, rfl⟩
    go_wp2_with fail
    refine (HG.out n).mono ?_
    rintro e2 w2 ⟨rfl, rfl⟩
    go_wp2_with fail
    go_ret2
    have ho : Only q w ((w.drewN n).setCell ⟨q, 1, none⟩ (.int .i64 ((p : Int) + 4))) := ((Only.refl q w).drewN n).set_ 1 _
    refine ⟨rfl, ?_, ho⟩
    have hb2 : Blk (w.drewN n) q 152 #[.slice A N c, .int .i64 (p : Int)] := B1.out
    have hb3 := hb2.set_ 1 (.int .i64 ((p : Int) + 4))
    refine HRin.out.move ho ?_ (by omega)
    simpa [hN] using hb3
set_option maxRecDepth 100000 in
set_option maxHeartbeats 1000000 in
theorem ieight_any (w : World) (q : Nat) (A : Option Addr) (c : Nat) (bs : List UInt8) (p : Nat) (h : Rin 152 w q A c bs p) :
    Calls Try.prog 123 #[.pointer (some ⟨q, 0, none⟩)] w fun e w' => e = .returned (.tuple #[.int .u64 ((rFix 8 bs p).1 : Nat), .int .i64 ((rFix 8 bs p).2.1 : Nat)]) ∧ Rin 152 w' q A c bs (rFix 8 bs p).2.2 ∧ Only q w w' := by
  have hcap := h.cap
  have hsm := h.sl.small
  have hle := h.le
  have hget := fun n => g64_at (bs.drop p) (bs.length - p) (cutA A c p) (c - p) (w.drewN n) (by simp) ((h.sl.cut p hle).drewN n)
  have hrest := irest_any w q A c bs p h
  have hr : rFix 8 bs p = if bs.length - p < 8 then (0, 4, p) else (unfixN ((bs.drop p).take 8), 0, p + 8) := rfl
  have HR := hid hrest
  have HRin := hid h
  have b1 := h.blk
  have l1 := b1.lt
  clear hrest h
  have c1 : w.cell? ⟨q, 1, none⟩ = some (.int .i64 (p : Int)) := by simpa using b1.cell 1
  have f1 := b1.frozen 1
  have B1 := hid b1
  clear b1
  generalize hN : bs.length = N at *
  by_cases hlt : N - p < 8
  · rw [if_pos hlt] at hr
    simp only [hlt, if_true] at hget
    rw [hr]
    have HG := hid hget
    clear hget hr
    go_enter Try.func123, Try.ntmps123
    go_wp2_with fail
    refine HR.out.mono ?_
    rintro e1 w1 ⟨rfl, n, rfl⟩
    go_wp2_with fail
    refine (HG.out n).mono ?_
    rintro e2 w2 ⟨rfl, rfl⟩
    go_wp2_with fail
    go_ret2
    exact ⟨rfl, HRin.out.move ((Only.refl q w).drewN n) (by rw [hN]; exact B1.out) (by omega), (Only.refl q w).drewN n⟩
  · rw [if_neg hlt] at hr
    simp only [hlt, if_false] at hget
    rw [hr]
    generalize unfixN ((bs.drop p).take 8) = v at *
    have HG := hid hget
    clear hget hr
    go_enter Try.func123, Try.ntmps123
    go_wp2_with fail
    refine HR.out.mono ?_
    rintro e1 w1 ⟨rfl, n, rfl⟩
    go_wp2_with fail
    refine (HG.out n).mono ?_
    rintro e2 w2 ⟨rfl, rfl⟩
    go_wp2_with fail
    go_ret2
    have ho : Only q w ((w.drewN n).setCell ⟨q, 1, none⟩ (.int .i64 ((p : Int) + 8))) := ((Only.refl q w).drewN n).set_ 1 _
    refine ⟨rfl, ?_, ho⟩
    have hb2 : Blk (w.drewN n) q 152 #[.slice A N c, .int .i64 (p : Int)] := B1.out
    have hb3 := hb2.set_ 1 (.int .i64 ((p : Int) + 8))
    refine HRin.out.move ho ?_ (by omega)
    simpa [hN] using hb3
end Go.Proofs.Ytealjpolomhdeaa
set_option linter.unusedVariables false
namespace Go.Proofs.Ytealjpolomhdeaa
open Go.RowKit
theorem iat_any (t : TypeId) (w : World) (q : Nat) (A : Option Addr) (c : Nat) (bs : List UInt8) (p : Nat) (h : Rin 152 w q A c bs p) :
    Calls Try.prog 98 #[.pointer (some ⟨q, 0, none⟩)] w fun e w' => e = .returned (.int .i64 (p : Int)) ∧ w = w' := by
  have c1 : w.cell? ⟨q, 1, none⟩ = some (.int .i64 (p : Int)) := by simpa using h.blk.cell 1
  clear h
  go_enter Try.func98, Try.ntmps98
  go_wp2
  go_ret
  exact ⟨rfl, rfl⟩
end Go.Proofs.Ytealjpolomhdeaa
set_option linter.unusedVariables false
namespace Go.Proofs.Ytealjpolomhdeaa
open Go.RowKit
/-- So many bytes: they, what is wrong, and the place behind. -/
def rTake (n : Int) (bs : List UInt8) (p : Nat) : List UInt8 × Nat × Nat :=
  if n < 0 then ([], 1, p) else if ((bs.length - p : Nat) : Int) < n then ([], 4, p) else ((bs.drop p).take n.toNat, 0, p + n.toNat)
theorem rTake_neg {n : Int} {bs : List UInt8} {p : Nat} (h : n < 0) : rTake n bs p = ([], 1, p) := by rw [rTake, if_pos h]
theorem rTake_short {n : Int} {bs : List UInt8} {p : Nat} (h : ¬ n < 0) (h2 : ((bs.length - p : Nat) : Int) < n) : rTake n bs p = ([], 4, p) := by rw [rTake, if_neg h, if_pos h2]
theorem rTake_ok {n : Int} {bs : List UInt8} {p : Nat} (h : ¬ n < 0) (h2 : ¬ ((bs.length - p : Nat) : Int) < n) : rTake n bs p = ((bs.drop p).take n.toNat, 0, p + n.toNat) := by rw [rTake, if_neg h, if_neg h2]
/-- A piece of a slice. -/
theorem Sl.piece {w : World} {A : Option Addr} {c : Nat} {bs : List UInt8} (h : Sl w A c (bs.map bv)) (p m : Nat) (hp : p + m ≤ bs.length) : Sl w (cutA A (p + m) p) m (((bs.drop p).take m).map bv) := by
  have hc := h.cap
  simp only [List.length_map] at hc
  have hl : ((bs.drop p).take m).length = m := by simp; omega
  refine ⟨by simp; omega, by have := h.small; omega, ?_, ?_⟩
  · intro hn
    unfold cutA at hn
    split at hn
    · omega
    · cases A with
      | none => have := h.nil0 rfl; omega
      | some a => simp at hn
  · unfold cutA
    split
    · have : m = 0 := by omega
      subst this
      simp; exact Rd.nil_ _ _
    · cases A with
      | none => have := h.rd.none_nil; simp at this; subst this; simp; exact Rd.nil_ _ _
      | some a =>
        intro j u hj
        rw [List.map_take, List.getElem?_take] at hj
        split at hj
        · obtain ⟨b, off, he, hl, hcell⟩ := h.rd (p + j) u (by rw [← List.getElem?_drop, ← List.map_drop]; exact hj)
          injection he with he
          subst he
          refine ⟨b, off + p, ?_, hl, by rw [Nat.add_assoc]; exact hcell⟩
          simp [addr_add]
        · cases hj
theorem Blk.drewN {w : World} {g : Nat} {t : TypeId} {cs : Array Value} (h : Blk w g t cs) (n : Nat) : Blk (w.drewN n) g t cs := h
theorem Far.cutP {w : World} {A : Option Addr} {q c d p n N : Nat} {bs : List UInt8} (h : Far A N q) (hs : Sl w A c (bs.map bv)) (hn : n ≤ N) (hN : bs.length = N := by assumption) : Far (cutA A d p) n q := by
  subst hN
  intro hpos b off he
  obtain ⟨b', off', hA, _⟩ := hs.rd 0 (bv (bs[0]'(by omega))) (by simp [List.getElem?_eq_getElem (show 0 < bs.length by omega)])
  subst hA
  have hne := h (by omega) b' off' rfl
  unfold cutA at he
  split at he
  · injection he with he; injection he with h1 h2; omega
  · simp only [Option.map_some, addr_add] at he
    injection he with he; injection he with h1 h2; omega
set_option maxRecDepth 100000 in
set_option maxHeartbeats 1000000 in
theorem inext_any (n : Int) (w : World) (q : Nat) (A : Option Addr) (c : Nat) (bs : List UInt8) (p : Nat) (hn1 : -9223372036854775808 ≤ n) (hn2 : n ≤ 9223372036854775807) (h : Rin 152 w q A c bs p) :
    Calls Try.prog 139 #[.pointer (some ⟨q, 0, none⟩), .int .i64 n] w fun e w' => ∃ A' c', e = .returned (.tuple #[.slice A' (rTake n bs p).1.length c', .int .i64 ((rTake n bs p).2.1 : Nat)]) ∧ Sl w' A' c' ((rTake n bs p).1.map bv) ∧ (∀ q', Far A bs.length q' → Far A' (rTake n bs p).1.length q') ∧ Rin 152 w' q A c bs (rTake n bs p).2.2 ∧ Only q w w' := by
  have hcap := h.cap
  have hsm := h.sl.small
  have hle := h.le
  by_cases a1 : n < 0
  · rw [rTake_neg a1]
    have HRin := hid h
    clear h
    go_enter Try.func139, Try.ntmps139
    go_wp2_with fail
    go_ret2
    exact ⟨none, 0, rfl, Sl.nil_ _, fun q' _ hp => by simp at hp, HRin.out, Only.refl _ _⟩
  have hleft := ileft_any w q A c bs p h
  have HL := hid hleft
  have HRin := hid h
  have b1 := h.blk
  clear hleft h
  by_cases a2 : ((bs.length - p : Nat) : Int) < n
  · rw [rTake_short a1 a2]
    generalize ((bs.length - p : Nat) : Int) = lf at *
    clear b1
    go_enter Try.func139, Try.ntmps139
    go_wp2_with fail
    refine HL.out.mono ?_
    rintro e1 w1 ⟨rfl, k, rfl⟩
    go_wp2_with fail
    go_ret2
    exact ⟨none, 0, rfl, Sl.nil_ _, fun q' _ hp => by simp at hp, HRin.out.below (below_drewN (Below.refl _ _) k), (Only.refl _ _).drewN k⟩
  · rw [rTake_ok a1 a2]
    obtain ⟨m, rfl⟩ : ∃ m : Nat, n = (m : Int) := ⟨n.toNat, by omega⟩
    have hm : p + m ≤ bs.length := by omega
    rw [show (m : Int).toNat = m from rfl]
    have hlen : ((bs.drop p).take m).length = m := by simp; omega
    rw [hlen]
    have HLEN := hid hlen
    clear hlen
    have c0 : w.cell? ⟨q, 0, none⟩ = some (.slice A bs.length c) := by simpa using b1.cell 0
    have c1 : w.cell? ⟨q, 1, none⟩ = some (.int .i64 (p : Int)) := by simpa using b1.cell 1
    have f1 := b1.frozen 1
    have l1 := b1.lt
    have B1 := hid b1
    clear b1
    generalize hN : bs.length = N at *
    have hlf : (m : Int) ≤ ((N - p : Nat) : Int) := by omega
    generalize ((N - p : Nat) : Int) = lf at *
    go_enter Try.func139, Try.ntmps139
    go_wp2_with fail
    refine HL.out.mono ?_
    rintro e1 w1 ⟨rfl, k, rfl⟩
    go_wp2_with fail
    go_quiet (fail)
    go_wp2_with fail
    · have hm0 : m = 0 := by omega
      subst hm0
      go_ret2
      have ho : Only q w ((((w.drewN k).setCell ⟨q, 1, none⟩ (.int .i64 ((p : Int) + ((0 : Nat) : Int)))).drewN nq)) := (((Only.refl q w).drewN k).set_ 1 _).drewN nq
      refine ⟨A, 0, rfl, ⟨by simp, by omega, fun _ => rfl, by simp; exact Rd.nil_ _ _⟩, fun q' _ hp => by omega, ?_, ho⟩
      have hb2 : Blk (w.drewN k) q 152 #[.slice A N c, .int .i64 (p : Int)] := B1.out
      have hb3 := (hb2.set_ 1 (.int .i64 ((p : Int) + ((0 : Nat) : Int)))).drewN nq
      refine HRin.out.move ho ?_ (by omega)
      simpa [hN] using hb3
    · go_ret2
      have ho : Only q w ((((w.drewN k).setCell ⟨q, 1, none⟩ (.int .i64 ((p : Int) + (m : Int)))).drewN nq)) := (((Only.refl q w).drewN k).set_ 1 _).drewN nq
      have hs := ho.sl HRin.out.sl HRin.out.far (by simp)
      have hpc := hs.piece p m (by omega)
      have hA : cutA A (p + m) p = Option.map (fun x => x.add p) A := by unfold cutA; rw [if_neg ‹¬ p + m = p›]
      rw [hA] at hpc
      have hs0 := HRin.out.sl
      refine ⟨_, m, rfl, by simpa using hpc, fun q' hf => ?_, ?_, ho⟩
      · rw [← hA]
        exact Far.cutP hf hs0 (by omega)
      · have hb2 : Blk (w.drewN k) q 152 #[.slice A N c, .int .i64 (p : Int)] := B1.out
        have hb3 := (hb2.set_ 1 (.int .i64 ((p : Int) + (m : Int)))).drewN nq
        refine HRin.out.move ho ?_ (by omega)
        simpa [hN] using hb3
/-- A length, and so many bytes. -/
def rCount (most : Int) (bs : List UInt8) (p : Nat) : List UInt8 × Nat × Nat :=
  if (M.get (bs.drop p)).2.2 ≠ 0 then ([], (M.get (bs.drop p)).2.2, p)
  else if most < 0 ∨ most < ((M.get (bs.drop p)).1 : Int) then ([], 2, p + (M.get (bs.drop p)).2.1)
  else rTake ((M.get (bs.drop p)).1 : Int) bs (p + (M.get (bs.drop p)).2.1)
set_option maxRecDepth 100000 in
set_option maxHeartbeats 1000000 in
theorem icounted_any (most : Int) (w : World) (q : Nat) (A : Option Addr) (c : Nat) (bs : List UInt8) (p : Nat) (hn1 : -9223372036854775808 ≤ most) (hn2 : most ≤ 9223372036854775807) (h : Rin 152 w q A c bs p) :
    Calls Try.prog 126 #[.pointer (some ⟨q, 0, none⟩), .int .i64 most] w fun e w' => ∃ A' c', e = .returned (.tuple #[.slice A' (rCount most bs p).1.length c', .int .i64 ((rCount most bs p).2.1 : Nat)]) ∧ Sl w' A' c' ((rCount most bs p).1.map bv) ∧ (∀ q', Far A bs.length q' → Far A' (rCount most bs p).1.length q') ∧ Rin 152 w' q A c bs (rCount most bs p).2.2 ∧ Only q w w' := by
  have hnum := inum_any w q A c bs p h
  have hr : rCount most bs p = if (M.get (bs.drop p)).2.2 ≠ 0 then ([], (M.get (bs.drop p)).2.2, p)
    else if most < 0 ∨ most < ((M.get (bs.drop p)).1 : Int) then ([], 2, p + (M.get (bs.drop p)).2.1)
    else rTake ((M.get (bs.drop p)).1 : Int) bs (p + (M.get (bs.drop p)).2.1) := rfl
  have hf := M.get_facts (bs.drop p)
  have hle := h.le
  clear h
  generalize M.get (bs.drop p) = g at *
  obtain ⟨v, k, e⟩ := g
  simp only at hnum hr hf
  have HN := hid hnum
  clear hnum
  by_cases he : e = 0
  · subst he
    have hv := (hf.1 rfl).2.2.2
    clear hf
    by_cases a1 : most < 0
    · rw [if_neg (by simp), if_pos (.inl a1)] at hr
      rw [hr]
      clear hr
      go_enter Try.func126, Try.ntmps126
      go_wp2_with fail
      refine HN.out.mono ?_
      rintro e1 w1 ⟨rfl, hrin, ho⟩
      go_wp2_with fail
      go_ret2
      exact ⟨none, 0, rfl, Sl.nil_ _, fun q' _ hp => by simp at hp, hrin, ho⟩
    obtain ⟨mo, rfl⟩ : ∃ mo : Nat, most = (mo : Int) := ⟨most.toNat, by omega⟩
    have hmo : 0 ≤ (mo : Int) := by omega
    by_cases a2 : mo < v
    · rw [if_neg (by simp), if_pos (.inr (by omega))] at hr
      rw [hr]
      clear hr
      go_enter Try.func126, Try.ntmps126
      go_wp2_with fail
      refine HN.out.mono ?_
      rintro e1 w1 ⟨rfl, hrin, ho⟩
      go_wp2_with fail
      go_ret2
      exact ⟨none, 0, rfl, Sl.nil_ _, fun q' _ hp => by simp at hp, hrin, ho⟩
    · rw [if_neg (by simp), if_neg (by omega)] at hr
      rw [hr]
      clear hr
      have hv2 : (v : Int) ≤ 9223372036854775807 := by omega
      go_enter Try.func126, Try.ntmps126
      go_wp2_with fail
      refine HN.out.mono ?_
      rintro e1 w1 ⟨rfl, hrin, ho⟩
      have hnext := inext_any (v : Int) w1 q A c bs (p + k) (by omega) (by omega) hrin
      have HX := hid hnext
      clear hnext
      go_wp2_with fail
      refine HX.out.mono ?_
      rintro e2 w2 ⟨A', c', rfl, hs2, hf2, hrin2, ho2⟩
      go_wp2_with fail
      go_ret2
      exact ⟨A', c', rfl, hs2, hf2, hrin2, ho.trans ho2⟩
  · have hz := (hf.2 he).2.1
    subst hz
    clear hf
    rw [if_pos he] at hr
    rw [hr]
    have heb : ((e : Int) != 0) = true := by simp; omega
    clear hr he
    go_enter Try.func126, Try.ntmps126
    go_wp2_with fail
    refine HN.out.mono ?_
    rintro e1 w1 ⟨rfl, hrin, ho⟩
    go_wp2_with fail
    go_ret2
    exact ⟨none, 0, rfl, Sl.nil_ _, fun q' _ hp => by simp at hp, hrin, ho⟩
end Go.Proofs.Ytealjpolomhdeaa
set_option linter.unusedVariables false
namespace Go.Proofs.Ytealjpolomhdeaa
open Go.RowKit
theorem func_run {P : Program} (fn : Fn) (first cap : Array Value) (w : World) : (Instr.makeFunc fn first cap).run P w = .ok (.func fn first cap) w := rfl
/-- The place of a fault. -/
def flt (e p : Nat) : Nat := if e = 0 then 0 else p
/-- Where the reader is behind. -/
def plc (e p p1 : Nat) : Nat := if e = 0 then p1 else p
theorem Rin.set_ {t : TypeId} {w w1 : World} {q : Nat} {A : Option Addr} {c : Nat} {bs : List UInt8} {p p1 : Nat} (h : Rin t w q A c bs p) (h1 : Rin t w1 q A c bs p1) : Rin t (w1.setCell ⟨q, 1, none⟩ (.int .i64 (p : Int))) q A c bs p := by
  refine h1.move ((Only.refl q w1).set_ 1 _) ?_ h.le
  have := h1.blk.set_ 1 (.int .i64 (p : Int))
  simpa using this
theorem Rin.far_set {t : TypeId} {w : World} {q g : Nat} {A : Option Addr} {c : Nat} {bs : List UInt8} {p : Nat} (h : Rin t w q A c bs p) (hq : q ≠ g) (hf : Far A bs.length g) (i : Nat) (u : Value) : Rin t (w.setCell ⟨g, i, none⟩ u) q A c bs p :=
  h.other ((Only.refl g w).set_ i u) hq hf
theorem far_new {w : World} {A : Option Addr} {c : Nat} {bs : List UInt8} {g : Nat} (h : Sl w A c (bs.map bv)) (hg : w.heap.size ≤ g) : Far A bs.length g := by
  intro hpos b off he
  obtain ⟨b', off', hA, hlt, _⟩ := h.rd 0 (bv (bs[0]'hpos)) (by simp [List.getElem?_eq_getElem hpos])
  rw [he] at hA
  injection hA with hA
  injection hA with h1 h2
  omega
set_option maxRecDepth 100000 in
set_option maxHeartbeats 1000000 in
theorem told_num (w : World) (q : Nat) (A : Option Addr) (c : Nat) (bs : List UInt8) (p : Nat) (h : Rin 152 w q A c bs p) :
    Calls Try.prog 121 #[.pointer (some ⟨q, 0, none⟩), .func (.func 122) #[.pointer (some ⟨q, 0, none⟩)] #[]] w fun e w' => e = .returned (.tuple #[.int .u64 (if (M.get (bs.drop p)).2.2 = 0 then (M.get (bs.drop p)).1 else 0 : Nat), .agg #[.int .i64 ((M.get (bs.drop p)).2.2 : Nat), .int .i64 (flt (M.get (bs.drop p)).2.2 p : Nat)]]) ∧ Rin 152 w' q A c bs (plc (M.get (bs.drop p)).2.2 p (p + (M.get (bs.drop p)).2.1)) ∧ Only q w w' := by
  have hlt := h.blk.lt
  have h0 := h.below ((Below.refl _ w).alloc (Nat.le_refl _) (.cells #[.int .i64 0, .int .i64 0] 32))
  have hc := inum_any _ q A c bs p h0
  have c1 : w.cell? ⟨q, 1, none⟩ = some (.int .i64 (p : Int)) := by simpa using h.blk.cell 1
  have hfn := far_new h.sl (Nat.le_refl _)
  have HC := hid hc
  have H0 := hid h0
  clear hc h h0
  have hq : Blk (w.alloc (.cells #[.int .i64 0, .int .i64 0] 32)) w.heap.size 32 #[.int .i64 0, .int .i64 0] := Blk.new w _ _
  generalize (M.get (bs.drop p)).2.2 = e at *
  generalize (M.get (bs.drop p)).1 = v at *
  generalize (p + (M.get (bs.drop p)).2.1) = p1 at *
  by_cases he : e = 0
  · subst he
    simp only [flt, plc, if_true]
    go_enter Try.func121, Try.ntmps121
    go_wp2_with fail
    refine HC.out.mono ?_
    rintro e1 w1 ⟨rfl, hrin, ho⟩
    have hq1 := ho.blk hq (by omega)
    have c0 : w1.cell? ⟨w.heap.size, 0, none⟩ = some (.int .i64 0) := hq1.cell 0
    have c1 : w1.cell? ⟨w.heap.size, 1, none⟩ = some (.int .i64 0) := hq1.cell 1
    have f0 := hq1.frozen 0
    have f1 := hq1.frozen 1
    have hsz := ho.size
    have hl := hq1.lt
    have HO := hid ho
    have HR := hid hrin
    clear hq hq1 ho hrin
    go_wp2_with fail
    refine bodyPost_ret (v := .tuple #[.int .u64 (v : Nat), .agg #[.int .i64 0, .int .i64 0]]) (by simp [results, Try.results121, go_sem, c0, c1]) rfl ⟨rfl, ?_, ?_⟩
    · exact (HR.out.far_set (by omega) hfn _ _).far_set (by omega) hfn _ _
    · have hw := (Only.refl q w).alloc (.cells #[.int .i64 0, .int .i64 0] 32)
      exact ((hw.trans HO.out).new_ (Nat.le_refl _) _ _).new_ (Nat.le_refl _) _ _
  · have heb : ((e : Int) != 0) = true := by simp; omega
    simp only [flt, plc, he, if_false]
    clear he
    go_enter Try.func121, Try.ntmps121
    go_wp2_with fail
    refine HC.out.mono ?_
    rintro e1 w1 ⟨rfl, hrin, ho⟩
    have hq1 := ho.blk hq (by omega)
    have c0 : w1.cell? ⟨w.heap.size, 0, none⟩ = some (.int .i64 0) := hq1.cell 0
    have c1 : w1.cell? ⟨w.heap.size, 1, none⟩ = some (.int .i64 0) := hq1.cell 1
    have f0 := hq1.frozen 0
    have f1 := hq1.frozen 1
    have r1 := hrin.blk.frozen 1
    have rl := hrin.blk.lt
    have rc : w1.cell? ⟨q, 1, none⟩ = some (.int .i64 (p1 : Int)) := by simpa using hrin.blk.cell 1
    have hsz := ho.size
    have hl := hq1.lt
    have HO := hid ho
    have HR := hid hrin
    clear hq hq1 ho hrin
    go_wp2_with fail
    refine bodyPost_ret (v := .tuple #[.int .u64 0, .agg #[.int .i64 (e : Int), .int .i64 (p : Int)]]) (by simp [results, Try.results121, go_sem, c0, c1]) rfl ⟨rfl, ?_, ?_⟩
    · exact ((H0.out.set_ HR.out).far_set (by omega) hfn _ _).far_set (by omega) hfn _ _
    · have hw := (Only.refl q w).alloc (.cells #[.int .i64 0, .int .i64 0] 32)
      exact (((hw.trans HO.out).set_ 1 _).new_ (Nat.le_refl _) _ _).new_ (Nat.le_refl _) _ _
set_option maxRecDepth 100000 in
set_option maxHeartbeats 1000000 in
theorem told_four (w : World) (q : Nat) (A : Option Addr) (c : Nat) (bs : List UInt8) (p : Nat) (h : Rin 152 w q A c bs p) :
    Calls Try.prog 127 #[.pointer (some ⟨q, 0, none⟩), .func (.func 128) #[.pointer (some ⟨q, 0, none⟩)] #[]] w fun e w' => e = .returned (.tuple #[.int .u32 (if (rFix 4 bs p).2.1 = 0 then (rFix 4 bs p).1 else 0 : Nat), .agg #[.int .i64 ((rFix 4 bs p).2.1 : Nat), .int .i64 (flt (rFix 4 bs p).2.1 p : Nat)]]) ∧ Rin 152 w' q A c bs (plc (rFix 4 bs p).2.1 p (rFix 4 bs p).2.2) ∧ Only q w w' := by
  have hlt := h.blk.lt
  have h0 := h.below ((Below.refl _ w).alloc (Nat.le_refl _) (.cells #[.int .i64 0, .int .i64 0] 32))
  have hc := ifour_any _ q A c bs p h0
  have c1 : w.cell? ⟨q, 1, none⟩ = some (.int .i64 (p : Int)) := by simpa using h.blk.cell 1
  have hfn := far_new h.sl (Nat.le_refl _)
  have HC := hid hc
  have H0 := hid h0
  clear hc h h0
  have hq : Blk (w.alloc (.cells #[.int .i64 0, .int .i64 0] 32)) w.heap.size 32 #[.int .i64 0, .int .i64 0] := Blk.new w _ _
  generalize (rFix 4 bs p).2.1 = e at *
  generalize (rFix 4 bs p).1 = v at *
  generalize (rFix 4 bs p).2.2 = p1 at *
  by_cases he : e = 0
  · subst he
    simp only [flt, plc, if_true]
    go_enter Try.func127, Try.ntmps127
    go_wp2_with fail
    refine HC.out.mono ?_
    rintro e1 w1 ⟨rfl, hrin, ho⟩
    have hq1 := ho.blk hq (by omega)
    have c0 : w1.cell? ⟨w.heap.size, 0, none⟩ = some (.int .i64 0) := hq1.cell 0
    have c1 : w1.cell? ⟨w.heap.size, 1, none⟩ = some (.int .i64 0) := hq1.cell 1
    have f0 := hq1.frozen 0
    have f1 := hq1.frozen 1
    have hsz := ho.size
    have hl := hq1.lt
    have HO := hid ho
    have HR := hid hrin
    clear hq hq1 ho hrin
    go_wp2_with fail
    refine bodyPost_ret (v := .tuple #[.int .u32 (v : Nat), .agg #[.int .i64 0, .int .i64 0]]) (by simp [results, Try.results127, go_sem, c0, c1]) rfl ⟨rfl, ?_, ?_⟩
    · exact (HR.out.far_set (by omega) hfn _ _).far_set (by omega) hfn _ _
    · have hw := (Only.refl q w).alloc (.cells #[.int .i64 0, .int .i64 0] 32)
      exact ((hw.trans HO.out).new_ (Nat.le_refl _) _ _).new_ (Nat.le_refl _) _ _
  · have heb : ((e : Int) != 0) = true := by simp; omega
    simp only [flt, plc, he, if_false]
    clear he
    go_enter Try.func127, Try.ntmps127
    go_wp2_with fail
    refine HC.out.mono ?_
    rintro e1 w1 ⟨rfl, hrin, ho⟩
    have hq1 := ho.blk hq (by omega)
    have c0 : w1.cell? ⟨w.heap.size, 0, none⟩ = some (.int .i64 0) := hq1.cell 0
    have c1 : w1.cell? ⟨w.heap.size, 1, none⟩ = some (.int .i64 0) := hq1.cell 1
    have f0 := hq1.frozen 0
    have f1 := hq1.frozen 1
    have r1 := hrin.blk.frozen 1
    have rl := hrin.blk.lt
    have rc : w1.cell? ⟨q, 1, none⟩ = some (.int .i64 (p1 : Int)) := by simpa using hrin.blk.cell 1
    have hsz := ho.size
    have hl := hq1.lt
    have HO := hid ho
    have HR := hid hrin
    clear hq hq1 ho hrin
    go_wp2_with fail
    refine bodyPost_ret (v := .tuple #[.int .u32 0, .agg #[.int .i64 (e : Int), .int .i64 (p : Int)]]) (by simp [results, Try.results127, go_sem, c0, c1]) rfl ⟨rfl, ?_, ?_⟩
    · exact ((H0.out.set_ HR.out).far_set (by omega) hfn _ _).far_set (by omega) hfn _ _
    · have hw := (Only.refl q w).alloc (.cells #[.int .i64 0, .int .i64 0] 32)
      exact (((hw.trans HO.out).set_ 1 _).new_ (Nat.le_refl _) _ _).new_ (Nat.le_refl _) _ _
set_option maxRecDepth 100000 in
set_option maxHeartbeats 1000000 in
theorem told_eight (w : World) (q : Nat) (A : Option Addr) (c : Nat) (bs : List UInt8) (p : Nat) (h : Rin 152 w q A c bs p) :
    Calls Try.prog 121 #[.pointer (some ⟨q, 0, none⟩), .func (.func 123) #[.pointer (some ⟨q, 0, none⟩)] #[]] w fun e w' => e = .returned (.tuple #[.int .u64 (if (rFix 8 bs p).2.1 = 0 then (rFix 8 bs p).1 else 0 : Nat), .agg #[.int .i64 ((rFix 8 bs p).2.1 : Nat), .int .i64 (flt (rFix 8 bs p).2.1 p : Nat)]]) ∧ Rin 152 w' q A c bs (plc (rFix 8 bs p).2.1 p (rFix 8 bs p).2.2) ∧ Only q w w' := by
  have hlt := h.blk.lt
  have h0 := h.below ((Below.refl _ w).alloc (Nat.le_refl _) (.cells #[.int .i64 0, .int .i64 0] 32))
  have hc := ieight_any _ q A c bs p h0
  have c1 : w.cell? ⟨q, 1, none⟩ = some (.int .i64 (p : Int)) := by simpa using h.blk.cell 1
  have hfn := far_new h.sl (Nat.le_refl _)
  have HC := hid hc
  have H0 := hid h0
  clear hc h h0
  have hq : Blk (w.alloc (.cells #[.int .i64 0, .int .i64 0] 32)) w.heap.size 32 #[.int .i64 0, .int .i64 0] := Blk.new w _ _
  generalize (rFix 8 bs p).2.1 = e at *
  generalize (rFix 8 bs p).1 = v at *
  generalize (rFix 8 bs p).2.2 = p1 at *
  by_cases he : e = 0
  · subst he
    simp only [flt, plc, if_true]
    go_enter Try.func121, Try.ntmps121
    go_wp2_with fail
    refine HC.out.mono ?_
    rintro e1 w1 ⟨rfl, hrin, ho⟩
    have hq1 := ho.blk hq (by omega)
    have c0 : w1.cell? ⟨w.heap.size, 0, none⟩ = some (.int .i64 0) := hq1.cell 0
    have c1 : w1.cell? ⟨w.heap.size, 1, none⟩ = some (.int .i64 0) := hq1.cell 1
    have f0 := hq1.frozen 0
    have f1 := hq1.frozen 1
    have hsz := ho.size
    have hl := hq1.lt
    have HO := hid ho
    have HR := hid hrin
    clear hq hq1 ho hrin
    go_wp2_with fail
    refine bodyPost_ret (v := .tuple #[.int .u64 (v : Nat), .agg #[.int .i64 0, .int .i64 0]]) (by simp [results, Try.results121, go_sem, c0, c1]) rfl ⟨rfl, ?_, ?_⟩
    · exact (HR.out.far_set (by omega) hfn _ _).far_set (by omega) hfn _ _
    · have hw := (Only.refl q w).alloc (.cells #[.int .i64 0, .int .i64 0] 32)
      exact ((hw.trans HO.out).new_ (Nat.le_refl _) _ _).new_ (Nat.le_refl _) _ _
  · have heb : ((e : Int) != 0) = true := by simp; omega
    simp only [flt, plc, he, if_false]
    clear he
    go_enter Try.func121, Try.ntmps121
    go_wp2_with fail
    refine HC.out.mono ?_
    rintro e1 w1 ⟨rfl, hrin, ho⟩
    have hq1 := ho.blk hq (by omega)
    have c0 : w1.cell? ⟨w.heap.size, 0, none⟩ = some (.int .i64 0) := hq1.cell 0
    have c1 : w1.cell? ⟨w.heap.size, 1, none⟩ = some (.int .i64 0) := hq1.cell 1
    have f0 := hq1.frozen 0
    have f1 := hq1.frozen 1
    have r1 := hrin.blk.frozen 1
    have rl := hrin.blk.lt
    have rc : w1.cell? ⟨q, 1, none⟩ = some (.int .i64 (p1 : Int)) := by simpa using hrin.blk.cell 1
    have hsz := ho.size
    have hl := hq1.lt
    have HO := hid ho
    have HR := hid hrin
    clear hq hq1 ho hrin
    go_wp2_with fail
    refine bodyPost_ret (v := .tuple #[.int .u64 0, .agg #[.int .i64 (e : Int), .int .i64 (p : Int)]]) (by simp [results, Try.results121, go_sem, c0, c1]) rfl ⟨rfl, ?_, ?_⟩
    · exact ((H0.out.set_ HR.out).far_set (by omega) hfn _ _).far_set (by omega) hfn _ _
    · have hw := (Only.refl q w).alloc (.cells #[.int .i64 0, .int .i64 0] 32)
      exact (((hw.trans HO.out).set_ 1 _).new_ (Nat.le_refl _) _ _).new_ (Nat.le_refl _) _ _
set_option maxRecDepth 100000 in
set_option maxHeartbeats 1000000 in
theorem inumm_any (w : World) (q : Nat) (A : Option Addr) (c : Nat) (bs : List UInt8) (p : Nat) (h : Rin 152 w q A c bs p) :
    Calls Try.prog 100 #[.pointer (some ⟨q, 0, none⟩)] w fun e w' => e = .returned (.tuple #[.int .u64 (if (M.get (bs.drop p)).2.2 = 0 then (M.get (bs.drop p)).1 else 0 : Nat), .agg #[.int .i64 ((M.get (bs.drop p)).2.2 : Nat), .int .i64 (flt (M.get (bs.drop p)).2.2 p : Nat)]]) ∧ Rin 152 w' q A c bs (plc (M.get (bs.drop p)).2.2 p (p + (M.get (bs.drop p)).2.1)) ∧ Only q w w' := by
  have hlt := h.blk.lt
  have h0 := h.below ((Below.refl _ w).alloc (Nat.le_refl _) (.cells #[.int .i64 0, .int .i64 0] 32))
  have hc := told_num _ q A c bs p h0
  have hfn := far_new h.sl (Nat.le_refl _)
  have HC := hid hc
  clear hc h h0
  have hq : Blk (w.alloc (.cells #[.int .i64 0, .int .i64 0] 32)) w.heap.size 32 #[.int .i64 0, .int .i64 0] := Blk.new w _ _
  generalize (if (M.get (bs.drop p)).2.2 = 0 then (M.get (bs.drop p)).1 else 0 : Nat) = v at *
  generalize plc (M.get (bs.drop p)).2.2 p (p + (M.get (bs.drop p)).2.1) = p1 at *
  generalize (flt (M.get (bs.drop p)).2.2 p : Nat) = fa at *
  generalize (M.get (bs.drop p)).2.2 = e at *
  have hmf := func_run (P := Try.prog)
  go_enter Try.func100, Try.ntmps100
  go_wp2_with fail
  refine HC.out.mono ?_
  rintro e1 w1 ⟨rfl, hrin, ho⟩
  have hq1 := ho.blk hq (by omega)
  have c0 : w1.cell? ⟨w.heap.size, 0, none⟩ = some (.int .i64 0) := hq1.cell 0
  have c1 : w1.cell? ⟨w.heap.size, 1, none⟩ = some (.int .i64 0) := hq1.cell 1
  have f0 := hq1.frozen 0
  have f1 := hq1.frozen 1
  have hsz := ho.size
  have hl := hq1.lt
  have HO := hid ho
  have HR := hid hrin
  clear hq hq1 ho hrin
  go_wp2_with fail
  refine bodyPost_ret (v := .tuple #[.int .u64 (v : Nat), .agg #[.int .i64 (e : Int), .int .i64 (fa : Int)]]) (by simp [results, Try.results100, go_sem, c0, c1]) rfl ⟨rfl, ?_, ?_⟩
  · exact (HR.out.far_set (by omega) hfn _ _).far_set (by omega) hfn _ _
  · have hw := (Only.refl q w).alloc (.cells #[.int .i64 0, .int .i64 0] 32)
    exact ((hw.trans HO.out).new_ (Nat.le_refl _) _ _).new_ (Nat.le_refl _) _ _
set_option maxRecDepth 100000 in
set_option maxHeartbeats 1000000 in
theorem ifourm_any (w : World) (q : Nat) (A : Option Addr) (c : Nat) (bs : List UInt8) (p : Nat) (h : Rin 152 w q A c bs p) :
    Calls Try.prog 103 #[.pointer (some ⟨q, 0, none⟩)] w fun e w' => e = .returned (.tuple #[.int .u32 (if (rFix 4 bs p).2.1 = 0 then (rFix 4 bs p).1 else 0 : Nat), .agg #[.int .i64 ((rFix 4 bs p).2.1 : Nat), .int .i64 (flt (rFix 4 bs p).2.1 p : Nat)]]) ∧ Rin 152 w' q A c bs (plc (rFix 4 bs p).2.1 p (rFix 4 bs p).2.2) ∧ Only q w w' := by
  have hlt := h.blk.lt
  have h0 := h.below ((Below.refl _ w).alloc (Nat.le_refl _) (.cells #[.int .i64 0, .int .i64 0] 32))
  have hc := told_four _ q A c bs p h0
  have hfn := far_new h.sl (Nat.le_refl _)
  have HC := hid hc
  clear hc h h0
  have hq : Blk (w.alloc (.cells #[.int .i64 0, .int .i64 0] 32)) w.heap.size 32 #[.int .i64 0, .int .i64 0] := Blk.new w _ _
  generalize (if (rFix 4 bs p).2.1 = 0 then (rFix 4 bs p).1 else 0 : Nat) = v at *
  generalize plc (rFix 4 bs p).2.1 p (rFix 4 bs p).2.2 = p1 at *
  generalize (flt (rFix 4 bs p).2.1 p : Nat) = fa at *
  generalize (rFix 4 bs p).2.1 = e at *
  have hmf := func_run (P := Try.prog)
  go_enter Try.func103, Try.ntmps103
  go_wp2_with fail
  refine HC.out.mono ?_
  rintro e1 w1 ⟨rfl, hrin, ho⟩
  have hq1 := ho.blk hq (by omega)
  have c0 : w1.cell? ⟨w.heap.size, 0, none⟩ = some (.int .i64 0) := hq1.cell 0
  have c1 : w1.cell? ⟨w.heap.size, 1, none⟩ = some (.int .i64 0) := hq1.cell 1
  have f0 := hq1.frozen 0
  have f1 := hq1.frozen 1
  have hsz := ho.size
  have hl := hq1.lt
  have HO := hid ho
  have HR := hid hrin
  clear hq hq1 ho hrin
  go_wp2_with fail
  refine bodyPost_ret (v := .tuple #[.int .u32 (v : Nat), .agg #[.int .i64 (e : Int), .int .i64 (fa : Int)]]) (by simp [results, Try.results103, go_sem, c0, c1]) rfl ⟨rfl, ?_, ?_⟩
  · exact (HR.out.far_set (by omega) hfn _ _).far_set (by omega) hfn _ _
  · have hw := (Only.refl q w).alloc (.cells #[.int .i64 0, .int .i64 0] 32)
    exact ((hw.trans HO.out).new_ (Nat.le_refl _) _ _).new_ (Nat.le_refl _) _ _
set_option maxRecDepth 100000 in
set_option maxHeartbeats 1000000 in
theorem ieightm_any (w : World) (q : Nat) (A : Option Addr) (c : Nat) (bs : List UInt8) (p : Nat) (h : Rin 152 w q A c bs p) :
    Calls Try.prog 101 #[.pointer (some ⟨q, 0, none⟩)] w fun e w' => e = .returned (.tuple #[.int .u64 (if (rFix 8 bs p).2.1 = 0 then (rFix 8 bs p).1 else 0 : Nat), .agg #[.int .i64 ((rFix 8 bs p).2.1 : Nat), .int .i64 (flt (rFix 8 bs p).2.1 p : Nat)]]) ∧ Rin 152 w' q A c bs (plc (rFix 8 bs p).2.1 p (rFix 8 bs p).2.2) ∧ Only q w w' := by
  have hlt := h.blk.lt
  have h0 := h.below ((Below.refl _ w).alloc (Nat.le_refl _) (.cells #[.int .i64 0, .int .i64 0] 32))
  have hc := told_eight _ q A c bs p h0
  have hfn := far_new h.sl (Nat.le_refl _)
  have HC := hid hc
  clear hc h h0
  have hq : Blk (w.alloc (.cells #[.int .i64 0, .int .i64 0] 32)) w.heap.size 32 #[.int .i64 0, .int .i64 0] := Blk.new w _ _
  generalize (if (rFix 8 bs p).2.1 = 0 then (rFix 8 bs p).1 else 0 : Nat) = v at *
  generalize plc (rFix 8 bs p).2.1 p (rFix 8 bs p).2.2 = p1 at *
  generalize (flt (rFix 8 bs p).2.1 p : Nat) = fa at *
  generalize (rFix 8 bs p).2.1 = e at *
  have hmf := func_run (P := Try.prog)
  go_enter Try.func101, Try.ntmps101
  go_wp2_with fail
  refine HC.out.mono ?_
  rintro e1 w1 ⟨rfl, hrin, ho⟩
  have hq1 := ho.blk hq (by omega)
  have c0 : w1.cell? ⟨w.heap.size, 0, none⟩ = some (.int .i64 0) := hq1.cell 0
  have c1 : w1.cell? ⟨w.heap.size, 1, none⟩ = some (.int .i64 0) := hq1.cell 1
  have f0 := hq1.frozen 0
  have f1 := hq1.frozen 1
  have hsz := ho.size
  have hl := hq1.lt
  have HO := hid ho
  have HR := hid hrin
  clear hq hq1 ho hrin
  go_wp2_with fail
  refine bodyPost_ret (v := .tuple #[.int .u64 (v : Nat), .agg #[.int .i64 (e : Int), .int .i64 (fa : Int)]]) (by simp [results, Try.results101, go_sem, c0, c1]) rfl ⟨rfl, ?_, ?_⟩
  · exact (HR.out.far_set (by omega) hfn _ _).far_set (by omega) hfn _ _
  · have hw := (Only.refl q w).alloc (.cells #[.int .i64 0, .int .i64 0] 32)
    exact ((hw.trans HO.out).new_ (Nat.le_refl _) _ _).new_ (Nat.le_refl _) _ _
end Go.Proofs.Ytealjpolomhdeaa
set_option linter.unusedVariables false
namespace Go.Proofs.Ytealjpolomhdeaa
open Go.RowKit
theorem cell_second (w : World) (o1 o3 : Obj) (v : Value) (t : TypeId) : (((w.alloc o1).alloc (.cells #[v] t)).alloc o3).cell? ⟨w.heap.size + 1, 0, none⟩ = some v := by
  have h := ((Blk.new (w.alloc o1) t #[v]).alloc o3).cell 0
  simpa using h
theorem blk_third (w : World) (o1 o2 : Obj) (cs : Array Value) (t : TypeId) : Blk (((w.alloc o1).alloc o2).alloc (.cells cs t)) (w.heap.size + 1 + 1) t cs := by
  have h := Blk.new ((w.alloc o1).alloc o2) t cs
  simpa using h
set_option maxRecDepth 100000 in
set_option maxHeartbeats 1000000 in
theorem bytes_clo (n : Int) (w : World) (q x y : Nat) (A : Option Addr) (c : Nat) (bs : List UInt8) (p : Nat) (hn1 : -9223372036854775808 ≤ n) (hn2 : n ≤ 9223372036854775807) (h : Rin 152 w q A c bs p)
    (hx : w.cell? ⟨x, 0, none⟩ = some (.pointer (some ⟨q, 0, none⟩))) (hy : w.cell? ⟨y, 0, none⟩ = some (.int .i64 n)) :
    Calls Try.prog 125 #[.pointer (some ⟨x, 0, none⟩), .pointer (some ⟨y, 0, none⟩)] w fun e w' => ∃ A' c', e = .returned (.tuple #[.slice A' (rCount n bs p).1.length c', .int .i64 ((rCount n bs p).2.1 : Nat)]) ∧ Sl w' A' c' ((rCount n bs p).1.map bv) ∧ (∀ q', Far A bs.length q' → Far A' (rCount n bs p).1.length q') ∧ Rin 152 w' q A c bs (rCount n bs p).2.2 ∧ Only q w w' := by
  have hc := icounted_any n w q A c bs p hn1 hn2 h
  generalize rCount n bs p = rr at *
  have HC := hid hc
  clear hc h
  go_enter Try.func125, Try.ntmps125
  go_wp2_with fail
  refine HC.out.mono ?_
  rintro e1 w1 ⟨A', c', rfl, hs, hf, hrin, ho⟩
  go_wp2_with fail
  go_ret2
  exact ⟨A', c', rfl, hs, hf, hrin, ho⟩
set_option maxRecDepth 100000 in
set_option maxHeartbeats 1000000 in
theorem bytes_told (n : Int) (w : World) (q x y : Nat) (A : Option Addr) (c : Nat) (bs : List UInt8) (p : Nat) (hn1 : -9223372036854775808 ≤ n) (hn2 : n ≤ 9223372036854775807) (h : Rin 152 w q A c bs p)
    (hx : w.cell? ⟨x, 0, none⟩ = some (.pointer (some ⟨q, 0, none⟩))) (hy : w.cell? ⟨y, 0, none⟩ = some (.int .i64 n)) :
    Calls Try.prog 124 #[.pointer (some ⟨q, 0, none⟩), .func (.func 125) #[] #[.pointer (some ⟨x, 0, none⟩), .pointer (some ⟨y, 0, none⟩)]] w fun e w' => ∃ A' c', e = .returned (.tuple #[.slice A' (if (rCount n bs p).2.1 = 0 then (rCount n bs p).1 else []).length c', .agg #[.int .i64 ((rCount n bs p).2.1 : Nat), .int .i64 (flt (rCount n bs p).2.1 p : Nat)]]) ∧ Sl w' A' c' ((if (rCount n bs p).2.1 = 0 then (rCount n bs p).1 else []).map bv) ∧ (∀ q', Far A bs.length q' → Far A' (if (rCount n bs p).2.1 = 0 then (rCount n bs p).1 else []).length q') ∧ Rin 152 w' q A c bs (plc (rCount n bs p).2.1 p (rCount n bs p).2.2) ∧ Only q w w' := by
  have hlt := h.blk.lt
  have hxl := World.block_lt_of_cell? w _ hx
  have hyl := World.block_lt_of_cell? w _ hy
  simp only at hxl hyl
  have hb0 : Below w.heap.size w (w.alloc (.cells #[.int .i64 0, .int .i64 0] 32)) := (Below.refl _ w).alloc (Nat.le_refl _) _
  have h0 := h.below hb0
  have hc := bytes_clo n _ q x y A c bs p hn1 hn2 h0 ((hb0.cell (p := ⟨x, 0, none⟩) hxl).trans hx) ((hb0.cell (p := ⟨y, 0, none⟩) hyl).trans hy)
  have c1 : w.cell? ⟨q, 1, none⟩ = some (.int .i64 (p : Int)) := by simpa using h.blk.cell 1
  have hfn := far_new h.sl (Nat.le_refl _)
  have HC := hid hc
  have H0 := hid h0
  clear hc h h0 hb0 hx hy hxl hyl
  have hq : Blk (w.alloc (.cells #[.int .i64 0, .int .i64 0] 32)) w.heap.size 32 #[.int .i64 0, .int .i64 0] := Blk.new w _ _
  generalize rCount n bs p = rr at *
  obtain ⟨l, e, p1⟩ := rr
  simp only at HC
  by_cases he : e = 0
  · subst he
    simp only [flt, plc, if_true]
    go_enter Try.func124, Try.ntmps124
    go_wp2_with fail
    refine HC.out.mono ?_
    rintro e1 w1 ⟨A', c', rfl, hs, hf, hrin, ho⟩
    have hq1 := ho.blk hq (by omega)
    have c0 : w1.cell? ⟨w.heap.size, 0, none⟩ = some (.int .i64 0) := hq1.cell 0
    have c1 : w1.cell? ⟨w.heap.size, 1, none⟩ = some (.int .i64 0) := hq1.cell 1
    have f0 := hq1.frozen 0
    have f1 := hq1.frozen 1
    have hsz := ho.size
    have hl := hq1.lt
    have HO := hid ho
    have HR := hid hrin
    have HS := hid hs
    have HF := hid hf
    clear hq hq1 ho hrin hs hf
    go_wp2_with fail
    refine bodyPost_ret (v := .tuple #[.slice A' l.length c', .agg #[.int .i64 0, .int .i64 0]]) (by simp [results, Try.results124, go_sem, c0, c1]) rfl ⟨A', c', rfl, ?_, HF.out, ?_, ?_⟩
    · have hfg := HF.out _ hfn
      have o1 := (Only.refl w.heap.size w1).set_ 0 (.int .i64 0)
      have s1 := o1.sl HS.out hfg (by simp)
      exact ((Only.refl w.heap.size _).set_ 1 (.int .i64 0)).sl s1 hfg (by simp)
    · exact (HR.out.far_set (by omega) hfn _ _).far_set (by omega) hfn _ _
    · have hw := (Only.refl q w).alloc (.cells #[.int .i64 0, .int .i64 0] 32)
      exact ((hw.trans HO.out).new_ (Nat.le_refl _) _ _).new_ (Nat.le_refl _) _ _
  · have heb : ((e : Int) != 0) = true := by simp; omega
    simp only [flt, plc, he, if_false]
    clear he
    go_enter Try.func124, Try.ntmps124
    go_wp2_with fail
    refine HC.out.mono ?_
    rintro e1 w1 ⟨A', c', rfl, hs, hf, hrin, ho⟩
    have hq1 := ho.blk hq (by omega)
    have c0 : w1.cell? ⟨w.heap.size, 0, none⟩ = some (.int .i64 0) := hq1.cell 0
    have c1 : w1.cell? ⟨w.heap.size, 1, none⟩ = some (.int .i64 0) := hq1.cell 1
    have f0 := hq1.frozen 0
    have f1 := hq1.frozen 1
    have r1 := hrin.blk.frozen 1
    have rl := hrin.blk.lt
    have rc : w1.cell? ⟨q, 1, none⟩ = some (.int .i64 (p1 : Int)) := by simpa using hrin.blk.cell 1
    have hsz := ho.size
    have hl := hq1.lt
    have HO := hid ho
    have HR := hid hrin
    clear hq hq1 ho hrin hs hf
    go_wp2_with fail
    refine bodyPost_ret (v := .tuple #[.slice none 0 0, .agg #[.int .i64 (e : Int), .int .i64 (p : Int)]]) (by simp [results, Try.results124, go_sem, c0, c1]) rfl ⟨none, 0, rfl, Sl.nil_ _, fun q' _ hp => by simp at hp, ?_, ?_⟩
    · exact ((H0.out.set_ HR.out).far_set (by omega) hfn _ _).far_set (by omega) hfn _ _
    · have hw := (Only.refl q w).alloc (.cells #[.int .i64 0, .int .i64 0] 32)
      exact (((hw.trans HO.out).set_ 1 _).new_ (Nat.le_refl _) _ _).new_ (Nat.le_refl _) _ _
set_option maxRecDepth 100000 in
set_option maxHeartbeats 1000000 in
theorem ibytesm_any (n : Int) (w : World) (q : Nat) (A : Option Addr) (c : Nat) (bs : List UInt8) (p : Nat) (hn1 : -9223372036854775808 ≤ n) (hn2 : n ≤ 9223372036854775807) (h : Rin 152 w q A c bs p) :
    Calls Try.prog 102 #[.pointer (some ⟨q, 0, none⟩), .int .i64 n] w fun e w' => ∃ A' c', e = .returned (.tuple #[.slice A' (if (rCount n bs p).2.1 = 0 then (rCount n bs p).1 else []).length c', .agg #[.int .i64 ((rCount n bs p).2.1 : Nat), .int .i64 (flt (rCount n bs p).2.1 p : Nat)]]) ∧ Sl w' A' c' ((if (rCount n bs p).2.1 = 0 then (rCount n bs p).1 else []).map bv) ∧ (∀ q', Far A bs.length q' → Far A' (if (rCount n bs p).2.1 = 0 then (rCount n bs p).1 else []).length q') ∧ Rin 152 w' q A c bs (plc (rCount n bs p).2.1 p (rCount n bs p).2.2) ∧ Only q w w' := by
  have hlt := h.blk.lt
  have ht := fun W hW hx hy => bytes_told n W q w.heap.size (w.heap.size + 1) A c bs p hn1 hn2 (h.below hW) hx hy
  have hfn2 : Far A bs.length (w.heap.size + 1 + 1) := far_new h.sl (by omega)
  generalize (if (rCount n bs p).2.1 = 0 then (rCount n bs p).1 else []) = l at *
  generalize (flt (rCount n bs p).2.1 p : Nat) = fa at *
  generalize plc (rCount n bs p).2.1 p (rCount n bs p).2.2 = p1 at *
  generalize (rCount n bs p).2.1 = e at *
  have HT := hid ht
  clear ht h
  have hmf := func_run (P := Try.prog)
  go_enter Try.func102, Try.ntmps102
  go_wp2_with fail
  generalize hW : World.alloc _ _ = W
  have hbW : Below w.heap.size w W := by rw [← hW]; exact ((((Below.refl _ w).alloc (Nat.le_refl _) _).alloc (by simp) _).alloc (by simp; omega) _)
  have hoW : Only q w W := by rw [← hW]; exact ((((Only.refl q w).alloc _).alloc _).alloc _)
  have hx : W.cell? ⟨w.heap.size, 0, none⟩ = some (.pointer (some ⟨q, 0, none⟩)) := by
    rw [← hW]
    have h1 : ∀ (t : TypeId) (o2 o3 : Obj), (((w.alloc (.cells #[.pointer (some ⟨q, 0, none⟩)] t)).alloc o2).alloc o3).cell? ⟨w.heap.size, 0, none⟩ = some (.pointer (some ⟨q, 0, none⟩)) := fun t o2 o3 => (((Blk.new w t #[.pointer (some ⟨q, 0, none⟩)]).alloc o2).alloc o3).cell 0
    exact h1 _ _ _
  have hy : W.cell? ⟨w.heap.size + 1, 0, none⟩ = some (.int .i64 n) := by rw [← hW]; exact cell_second w _ _ _ _
  have hq : Blk W (w.heap.size + 1 + 1) 32 #[.int .i64 0, .int .i64 0] := by rw [← hW]; exact blk_third w _ _ _ _
  clear hW
  refine (HT.out _ hbW hx hy).mono ?_
  rintro e1 w1 ⟨A', c', rfl, hs, hf, hrin, ho⟩
  have hq1 := ho.blk hq (by omega)
  have c0 : w1.cell? ⟨w.heap.size + 1 + 1, 0, none⟩ = some (.int .i64 0) := hq1.cell 0
  have c1 : w1.cell? ⟨w.heap.size + 1 + 1, 1, none⟩ = some (.int .i64 0) := hq1.cell 1
  have f0 := hq1.frozen 0
  have f1 := hq1.frozen 1
  have hl := hq1.lt
  have HO := hid (hoW.trans ho)
  have HR := hid hrin
  have HS := hid hs
  have HF := hid hf
  clear hq hq1 ho hrin hs hf hbW hoW hx hy
  go_wp2_with fail
  refine bodyPost_ret (v := .tuple #[.slice A' l.length c', .agg #[.int .i64 (e : Int), .int .i64 (fa : Int)]]) (by simp [results, Try.results102, go_sem, c0, c1]) rfl ⟨A', c', rfl, ?_, HF.out, ?_, ?_⟩
  · have hfg := HF.out _ hfn2
    have s1 := ((Only.refl (w.heap.size + 1 + 1) w1).set_ 0 (.int .i64 (e : Int))).sl HS.out hfg (by simp)
    exact ((Only.refl (w.heap.size + 1 + 1) _).set_ 1 (.int .i64 (fa : Int))).sl s1 hfg (by simp)
  · exact (HR.out.far_set (by omega) hfn2 _ _).far_set (by omega) hfn2 _ _
  · exact (HO.out.new_ (by omega) _ _).new_ (by omega) _ _
end Go.Proofs.Ytealjpolomhdeaa
set_option linter.unusedVariables false
namespace Go.Proofs.Ytealjpolomhdeaa
open Go.RowKit
/-- A tag: number, wire type, what is wrong, the place behind. -/
def rHead (bs : List UInt8) (p : Nat) : Int × Int × Nat × Nat :=
  if (M.get (bs.drop p)).2.2 = 0 then ((spl (M.get (bs.drop p)).1).1, (spl (M.get (bs.drop p)).1).2.1, (spl (M.get (bs.drop p)).1).2.2.toNat, p + (M.get (bs.drop p)).2.1) else (0, 0, (M.get (bs.drop p)).2.2, p)
theorem spl_err (n : Int) : 0 ≤ (spl n).2.2 ∧ (spl n).2.2 ≤ 7 ∧ ((spl n).2.2 ≠ 0 → (spl n).1 = 0 ∧ (spl n).2.1 = 0) := by
  unfold spl
  split
  · simp
  · split <;> simp
set_option maxRecDepth 100000 in
set_option maxHeartbeats 1000000 in
theorem ihead_any (w : World) (q : Nat) (A : Option Addr) (c : Nat) (bs : List UInt8) (p : Nat) (h : Rin 152 w q A c bs p) :
    Calls Try.prog 120 #[.pointer (some ⟨q, 0, none⟩)] w fun e w' => e = .returned (.tuple #[.agg #[.int .i64 (rHead bs p).1, .int .u8 (rHead bs p).2.1], .int .i64 ((rHead bs p).2.2.1 : Nat)]) ∧ Rin 152 w' q A c bs (rHead bs p).2.2.2 ∧ Only q w w' := by
  have hlt := h.blk.lt
  have h0 := h.below ((Below.refl _ w).alloc (Nat.le_refl _) (.cells #[.int .i64 0, .int .u8 0] 180))
  have hc := inum_any _ q A c bs p h0
  have hf := M.get_facts (bs.drop p)
  have hr : rHead bs p = if (M.get (bs.drop p)).2.2 = 0 then ((spl (M.get (bs.drop p)).1).1, (spl (M.get (bs.drop p)).1).2.1, (spl (M.get (bs.drop p)).1).2.2.toNat, p + (M.get (bs.drop p)).2.1) else (0, 0, (M.get (bs.drop p)).2.2, p) := rfl
  have hfn := far_new h.sl (Nat.le_refl _)
  have hq : Blk (w.alloc (.cells #[.int .i64 0, .int .u8 0] 180)) w.heap.size 180 #[.int .i64 0, .int .u8 0] := Blk.new w _ _
  clear h h0
  generalize M.get (bs.drop p) = g at *
  obtain ⟨v, k, e⟩ := g
  simp only at hc hf hr
  have HC := hid hc
  clear hc
  by_cases he : e = 0
  · subst he
    have hv := (hf.1 rfl).2.2.2
    rw [if_pos rfl] at hr
    have hsp := fun w => split_any (v : Int) w (by omega) (by omega)
    have hse := spl_err (v : Int)
    rw [hr]
    clear hf hr
    generalize spl (v : Int) = s at *
    obtain ⟨s1, s2, s3⟩ := s
    simp only at hsp hse
    obtain ⟨e3, rfl⟩ : ∃ n : Nat, s3 = (n : Int) := ⟨s3.toNat, by omega⟩
    rw [show ((e3 : Nat) : Int).toNat = e3 from rfl]
    have HS := hid hsp
    clear hsp hse
    go_enter Try.func120, Try.ntmps120
    go_wp2_with fail
    refine HC.out.mono ?_
    rintro e1 w1 ⟨rfl, hrin, ho⟩
    have hq1 := ho.blk hq (by omega)
    have c0 : w1.cell? ⟨w.heap.size, 0, none⟩ = some (.int .i64 0) := hq1.cell 0
    have c1 : w1.cell? ⟨w.heap.size, 1, none⟩ = some (.int .u8 0) := hq1.cell 1
    have f0 := hq1.frozen 0
    have f1 := hq1.frozen 1
    have hl := hq1.lt
    have HO := hid ho
    have HR := hid hrin
    clear hq hq1 ho hrin
    go_wp2_with fail
    refine (HS.out _).mono ?_
    rintro e2 w2 ⟨rfl, rfl⟩
    go_wp2_with fail
    refine bodyPost_ret (v := .tuple #[.agg #[.int .i64 s1, .int .u8 s2], .int .i64 (e3 : Int)]) (by simp [results, Try.results120, go_sem, c0, c1]) rfl ⟨rfl, ?_, ?_⟩
    · exact (HR.out.far_set (by omega) hfn _ _).far_set (by omega) hfn _ _
    · have hw := (Only.refl q w).alloc (.cells #[.int .i64 0, .int .u8 0] 180)
      exact ((hw.trans HO.out).new_ (Nat.le_refl _) _ _).new_ (Nat.le_refl _) _ _
  · have heb : ((e : Int) != 0) = true := by simp; omega
    have hk := (hf.2 he).2.1
    subst hk
    rw [if_neg he] at hr
    rw [hr]
    clear hf hr he
    go_enter Try.func120, Try.ntmps120
    go_wp2_with fail
    refine HC.out.mono ?_
    rintro e1 w1 ⟨rfl, hrin, ho⟩
    have hq1 := ho.blk hq (by omega)
    have c0 : w1.cell? ⟨w.heap.size, 0, none⟩ = some (.int .i64 0) := hq1.cell 0
    have c1 : w1.cell? ⟨w.heap.size, 1, none⟩ = some (.int .u8 0) := hq1.cell 1
    have f0 := hq1.frozen 0
    have f1 := hq1.frozen 1
    have hl := hq1.lt
    have HO := hid ho
    have HR := hid hrin
    clear hq hq1 ho hrin
    go_wp2_with fail
    refine bodyPost_ret (v := .tuple #[.agg #[.int .i64 0, .int .u8 0], .int .i64 (e : Int)]) (by simp [results, Try.results120, go_sem, c0, c1]) rfl ⟨rfl, ?_, ?_⟩
    · exact (HR.out.far_set (by omega) hfn _ _).far_set (by omega) hfn _ _
    · have hw := (Only.refl q w).alloc (.cells #[.int .i64 0, .int .u8 0] 180)
      exact ((hw.trans HO.out).new_ (Nat.le_refl _) _ _).new_ (Nat.le_refl _) _ _
set_option maxRecDepth 100000 in
set_option maxHeartbeats 1000000 in
theorem told_head (w : World) (q : Nat) (A : Option Addr) (c : Nat) (bs : List UInt8) (p : Nat) (h : Rin 152 w q A c bs p) :
    Calls Try.prog 119 #[.pointer (some ⟨q, 0, none⟩), .func (.func 120) #[.pointer (some ⟨q, 0, none⟩)] #[]] w fun e w' => e = .returned (.tuple #[.agg #[.int .i64 (if (rHead bs p).2.2.1 = 0 then (rHead bs p).1 else 0), .int .u8 (if (rHead bs p).2.2.1 = 0 then (rHead bs p).2.1 else 0)], .agg #[.int .i64 ((rHead bs p).2.2.1 : Nat), .int .i64 (flt (rHead bs p).2.2.1 p : Nat)]]) ∧ Rin 152 w' q A c bs (plc (rHead bs p).2.2.1 p (rHead bs p).2.2.2) ∧ Only q w w' := by
  have hlt := h.blk.lt
  have hlt1 : q < w.heap.size + 1 := by omega
  have hlt2 : q < w.heap.size + 1 + 1 := by omega
  have hc := fun W hb => ihead_any W q A c bs p (h.below hb)
  have hset := fun (W w1 : World) (p1 : Nat) hb (hr : Rin 152 w1 q A c bs p1) => (h.below (w' := W) hb).set_ hr
  have c1 : w.cell? ⟨q, 1, none⟩ = some (.int .i64 (p : Int)) := by simpa using h.blk.cell 1
  have hfn := fun g (hg : w.heap.size ≤ g) => far_new h.sl hg
  have HC := hid hc
  have HSET := hid hset
  have HFN := hid hfn
  clear hc h hset hfn
  generalize rHead bs p = rr at *
  obtain ⟨s1, s2, e, p1⟩ := rr
  simp only at HC
  by_cases he : e = 0
  case' pos =>
    subst he
    simp only [flt, plc, if_true]
  case' neg =>
    have heb : ((e : Int) != 0) = true := by simp; omega
    simp only [flt, plc, he, if_false]
    clear he
  all_goals
    go_enter Try.func119, Try.ntmps119
    go_wp2_with fail
    generalize hW : World.alloc _ _ = W
    have hbW : Below w.heap.size w W := by rw [← hW]; exact ((((Below.refl _ w).alloc (Nat.le_refl _) _).alloc (by simp) _).alloc (by simp; omega) _)
    have hoW : Only q w W := by rw [← hW]; exact ((((Only.refl q w).alloc _).alloc _).alloc _)
    have hq4 : Blk W w.heap.size 180 #[.int .i64 0, .int .u8 0] := by rw [← hW]; exact (((Blk.new w _ _).alloc _).alloc _)
    have hq5 : Blk W (w.heap.size + 1) 32 #[.int .i64 0, .int .i64 0] := by
      rw [← hW]
      have h1 : ∀ (o1 o3 : Obj), Blk (((w.alloc o1).alloc (.cells #[.int .i64 0, .int .i64 0] 32)).alloc o3) (w.heap.size + 1) 32 #[.int .i64 0, .int .i64 0] := by
        intro o1 o3
        have := (Blk.new (w.alloc o1) 32 #[.int .i64 0, .int .i64 0]).alloc o3
        simpa using this
      exact h1 _ _
    have hq6 : Blk W (w.heap.size + 1 + 1) 180 #[.int .i64 0, .int .u8 0] := by
      rw [← hW]
      have h1 : ∀ (o1 o2 : Obj), Blk (((w.alloc o1).alloc o2).alloc (.cells #[.int .i64 0, .int .u8 0] 180)) (w.heap.size + 1 + 1) 180 #[.int .i64 0, .int .u8 0] := by
        intro o1 o2
        have := Blk.new ((w.alloc o1).alloc o2) 180 #[.int .i64 0, .int .u8 0]
        simpa using this
      exact h1 _ _
    clear hW
    refine (HC.out _ hbW).mono ?_
    rintro e1 w1 ⟨rfl, hrin, ho⟩
    have hq4' := ho.blk hq4 (by omega)
    have hq5' := ho.blk hq5 (by omega)
    have hq6' := ho.blk hq6 (by omega)
    have c40 : w1.cell? ⟨w.heap.size, 0, none⟩ = some (.int .i64 0) := hq4'.cell 0
    have c41 : w1.cell? ⟨w.heap.size, 1, none⟩ = some (.int .u8 0) := hq4'.cell 1
    have f40 := hq4'.frozen 0
    have f41 := hq4'.frozen 1
    have c50 : w1.cell? ⟨w.heap.size + 1, 0, none⟩ = some (.int .i64 0) := hq5'.cell 0
    have c51 : w1.cell? ⟨w.heap.size + 1, 1, none⟩ = some (.int .i64 0) := hq5'.cell 1
    have f50 := hq5'.frozen 0
    have f51 := hq5'.frozen 1
    have c60 : w1.cell? ⟨w.heap.size + 1 + 1, 0, none⟩ = some (.int .i64 0) := hq6'.cell 0
    have c61 : w1.cell? ⟨w.heap.size + 1 + 1, 1, none⟩ = some (.int .u8 0) := hq6'.cell 1
    have l4 := hq4'.lt
    have l5 := hq5'.lt
    have l6 := hq6'.lt
    have r1 := hrin.blk.frozen 1
    have rl := hrin.blk.lt
    have rc : w1.cell? ⟨q, 1, none⟩ = some (.int .i64 (p1 : Int)) := by simpa using hrin.blk.cell 1
    have HO := hid (hoW.trans ho)
    have HR := hid hrin
    have HB := hid hbW
    clear hq4 hq5 hq6 hq4' hq5' hq6' ho hrin hoW hbW
    go_wp2_with fail
  · refine bodyPost_ret (v := .tuple #[.agg #[.int .i64 0, .int .u8 0], .agg #[.int .i64 (e : Int), .int .i64 (p : Int)]]) (by simp [results, Try.results119, go_sem, c40, c41, c50, c51, l4, l5]) rfl ⟨rfl, ?_, ?_⟩
    · have h8 := HSET.out _ _ _ HB.out HR.out
      exact ((((h8.far_set (by omega) (HFN.out _ (by omega)) _ _).far_set (by omega) (HFN.out _ (by omega)) _ _).far_set (by omega) (HFN.out _ (by omega)) _ _).far_set (by omega) (HFN.out _ (by omega)) _ _).below ((Below.refl _ _).alloc (Nat.le_refl _) _)
    · exact (((((HO.out.set_ 1 _).new_ (by omega) _ _).new_ (by omega) _ _).new_ (by omega) _ _).new_ (by omega) _ _).alloc _
  · refine bodyPost_ret (v := .tuple #[.agg #[.int .i64 s1, .int .u8 s2], .agg #[.int .i64 0, .int .i64 0]]) (by simp [results, Try.results119, go_sem, c40, c41, c50, c51, l4, l5]) rfl ⟨rfl, ?_, ?_⟩
    · exact ((((HR.out.far_set (by omega) (HFN.out _ (by omega)) _ _).far_set (by omega) (HFN.out _ (by omega)) _ _).far_set (by omega) (HFN.out _ (by omega)) _ _).far_set (by omega) (HFN.out _ (by omega)) _ _).below ((Below.refl _ _).alloc (Nat.le_refl _) _)
    · exact ((((HO.out.new_ (by omega) _ _).new_ (by omega) _ _).new_ (by omega) _ _).new_ (by omega) _ _).alloc _
set_option maxRecDepth 100000 in
set_option maxHeartbeats 1000000 in
theorem itagm_any (w : World) (q : Nat) (A : Option Addr) (c : Nat) (bs : List UInt8) (p : Nat) (h : Rin 152 w q A c bs p) :
    Calls Try.prog 99 #[.pointer (some ⟨q, 0, none⟩)] w fun e w' => e = .returned (.tuple #[.int .i64 (if (rHead bs p).2.2.1 = 0 then (rHead bs p).1 else 0), .int .u8 (if (rHead bs p).2.2.1 = 0 then (rHead bs p).2.1 else 0), .agg #[.int .i64 ((rHead bs p).2.2.1 : Nat), .int .i64 (flt (rHead bs p).2.2.1 p : Nat)]]) ∧ Rin 152 w' q A c bs (plc (rHead bs p).2.2.1 p (rHead bs p).2.2.2) ∧ Only q w w' := by
  have hlt := h.blk.lt
  have h0 := h.below ((Below.refl _ w).alloc (Nat.le_refl _) (.cells #[.int .i64 0, .int .i64 0] 32))
  have hc := told_head _ q A c bs p h0
  have hfn := fun g (hg : w.heap.size ≤ g) => far_new h.sl hg
  have HC := hid hc
  have HFN := hid hfn
  clear hc h h0 hfn
  have hq : Blk (w.alloc (.cells #[.int .i64 0, .int .i64 0] 32)) w.heap.size 32 #[.int .i64 0, .int .i64 0] := Blk.new w _ _
  generalize (if (rHead bs p).2.2.1 = 0 then (rHead bs p).1 else 0) = v1 at *
  generalize (if (rHead bs p).2.2.1 = 0 then (rHead bs p).2.1 else 0) = v2 at *
  generalize plc (rHead bs p).2.2.1 p (rHead bs p).2.2.2 = p1 at *
  generalize (flt (rHead bs p).2.2.1 p : Nat) = fa at *
  generalize (rHead bs p).2.2.1 = e at *
  have hmf := func_run (P := Try.prog)
  go_enter Try.func99, Try.ntmps99
  go_wp2_with fail
  refine HC.out.mono ?_
  rintro e1 w1 ⟨rfl, hrin, ho⟩
  have hq1 := ho.blk hq (by omega)
  have c0 : w1.cell? ⟨w.heap.size, 0, none⟩ = some (.int .i64 0) := hq1.cell 0
  have c1 : w1.cell? ⟨w.heap.size, 1, none⟩ = some (.int .i64 0) := hq1.cell 1
  have f0 := hq1.frozen 0
  have f1 := hq1.frozen 1
  have hl := hq1.lt
  have HO := hid ho
  have HR := hid hrin
  clear hq hq1 ho hrin
  go_wp2_with fail
  have hne1 : w1.heap.size ≠ w.heap.size := by omega
  have hne2 : w1.heap.size + 1 ≠ w.heap.size := by omega
  have hll : w.heap.size < w1.heap.size + 1 := by omega
  have hll2 : w.heap.size < w1.heap.size + 1 + 1 := by omega
  generalize hW : World.alloc _ _ = W
  have hbW : Below w1.heap.size w1 W := by rw [← hW]; exact ((Below.refl _ w1).alloc (Nat.le_refl _) _).alloc (by simp) _
  have d0 : W.cell? ⟨w1.heap.size, 0, none⟩ = some (.int .i64 v1) := by rw [← hW]; exact ((Blk.new w1 180 #[.int .i64 v1, .int .u8 v2]).alloc _).cell 0
  have d1 : W.cell? ⟨w1.heap.size, 1, none⟩ = some (.int .u8 v2) := by rw [← hW]; exact ((Blk.new w1 180 #[.int .i64 v1, .int .u8 v2]).alloc _).cell 1
  have hbk : Blk W (w1.heap.size + 1) 32 #[.int .i64 (e : Int), .int .i64 (fa : Int)] := by
    rw [← hW]
    have := Blk.new (w1.alloc (.cells #[.int .i64 v1, .int .u8 v2] 180)) 32 #[.int .i64 (e : Int), .int .i64 (fa : Int)]
    simpa using this
  have d2 : W.cell? ⟨w1.heap.size + 1, 0, none⟩ = some (.int .i64 (e : Int)) := hbk.cell 0
  have d3 : W.cell? ⟨w1.heap.size + 1, 1, none⟩ = some (.int .i64 (fa : Int)) := hbk.cell 1
  have dl := hbk.lt
  have c0' : W.cell? ⟨w.heap.size, 0, none⟩ = some (.int .i64 0) := (hbW.cell (p := ⟨w.heap.size, 0, none⟩) hl).trans c0
  have c1' : W.cell? ⟨w.heap.size, 1, none⟩ = some (.int .i64 0) := (hbW.cell (p := ⟨w.heap.size, 1, none⟩) hl).trans c1
  have f0' : W.frozen? ⟨w.heap.size, 0, none⟩ = false := (hbW.frozen (p := ⟨w.heap.size, 0, none⟩) hl).trans f0
  have f1' : W.frozen? ⟨w.heap.size, 1, none⟩ = false := (hbW.frozen (p := ⟨w.heap.size, 1, none⟩) hl).trans f1
  have HB := hid hbW
  clear hW hbW hbk c0 c1 f0 f1
  go_still_tail 7, (by kernel_rfl)
  change wpList _ _ _ _ _ W.drew
  go_wp2_with fail
  refine bodyPost_ret (v := .tuple #[.int .i64 v1, .int .u8 v2, .agg #[.int .i64 (e : Int), .int .i64 (fa : Int)]]) (by simp [results, Try.results99, go_sem, c0', c1']) rfl ⟨rfl, ?_, ?_⟩
  · have h1 := (HR.out.below HB.out).below (below_drewN (Below.refl W.heap.size W) 1)
    exact (h1.far_set (by omega) (HFN.out _ (by omega)) _ _).far_set (by omega) (HFN.out _ (by omega)) _ _
  · exact ((((((Only.refl q w).alloc _).trans HO.out).trans (.of_below HB.out)).drewN 1).new_ (by omega) _ _).new_ (by omega) _ _
end Go.Proofs.Ytealjpolomhdeaa
set_option linter.unusedVariables false
namespace Go.Proofs.Ytealjpolomhdeaa
open Go.RowKit
set_option maxRecDepth 100000 in
set_option maxHeartbeats 1000000 in
theorem clone_any (bs : List UInt8) (n : Nat) (A : Option Addr) (c : Nat) (w : World) (hn : bs.length = n) (hl : n ≤ 1000000) (hs : Sl w A c (bs.map bv)) :
    Calls Try.prog 97 #[.slice A n c] w fun e w' => ∃ v, e = .returned v ∧ w'.ownsRow w.heap.size 5 1 v n (bs.map bv) ∧ Below w.heap.size w w' := by
  obtain ⟨i0, hi, hz0, hz1, hz2⟩ := info_parts Try.info5
  cases A with
  | none =>
    have hnil := hs.rd.none_nil
    obtain rfl : bs = [] := by simpa using hnil
    obtain rfl := hs.nil0 rfl
    obtain rfl : n = 0 := by simpa using hn.symm
    have hnil : ∀ W, (binOp .eql 22 (.slice none 0 0) (.slice none 0 0)).run Try.prog W = .ok (.bool true) W := fun W => Lib.run_eql_slice_nil W _ _ none 0 0 0 0 Try.underlying22
    go_enter Try.func97, Try.ntmps97
    go_wp2
    go_ret
    exact ⟨_, rfl, World.ownsRow_nil _ _ _ _, Below.refl _ _⟩
  | some a =>
    have hrow0 : (w.alloc (.cells #[] 5)).ownsRow w.heap.size 5 1 (.slice (some ⟨w.heap.size, 0, none⟩) 0 0) 0 [] := World.ownsRow_made w #[] 0 (Nat.le_refl _) (by decide) rfl
    have hsa : Sl (w.alloc (.cells #[] 5)) (some a) c (bs.map bv) := hs.below ((Below.refl _ _).alloc (Nat.le_refl _) _)
    have HN := hid hn
    clear hn
    have hnil : ∀ W, (binOp .eql 22 (.slice (some a) n c) (.slice none 0 0)).run Try.prog W = .ok (.bool false) W := fun W => Lib.run_eql_slice_nil W _ _ (some a) n c 0 0 Try.underlying22
    go_enter Try.func97, Try.ntmps97
    go_wp2_with (at_builtin; refine wpList_append_rd rfl (.tmp 5) (.tmp 6) 22 rfl w.heap.size 5 i0 (.int .u8 0) 1 1 Try.underlying22 hi hz0 hz1 hz2 rfl (by decide) _ _ _ rfl hrow0 (some a) n c (bs.map bv) rfl (by rw [List.length_map, HN.out, Nat.mul_one]) hsa.rd hsa.nil0 (bv_one _) (by simp only [maxLen]; omega) (by omega) (by simp) ?_; intro v1 w3 hown1 hgrow1)
    go_ret
    rw [Nat.zero_add] at hown1
    exact ⟨_, rfl, hown1, bw_g (bw_a (Below.refl _ _) _) hgrow1 (fun k ek => (hrow0.lt k ek).1)⟩
set_option maxRecDepth 100000 in
set_option maxHeartbeats 1000000 in
theorem new_any (bs : List UInt8) (n : Nat) (A : Option Addr) (c : Nat) (w : World) (hn : bs.length = n) (hl : n ≤ 1000000) (hs : Sl w A c (bs.map bv)) :
    Calls Try.prog 71 #[.slice A n c] w fun e w' => ∃ q A' c', e = .returned (.pointer (some ⟨q, 0, none⟩)) ∧ Rin 152 w' q A' c' bs 0 ∧ w.heap.size ≤ q ∧ (∀ g, g < w.heap.size ∨ q ≤ g → Far A' bs.length g) ∧ Below w.heap.size w w' := by
  have hc := clone_any bs n A c w hn hl hs
  have HC := hid hc
  have HN := hid hn
  clear hc hn
  go_enter Try.func71, Try.ntmps71
  go_wp2_with fail
  refine HC.out.mono ?_
  rintro e w1 ⟨v, rfl, hown, hb⟩
  obtain ⟨A', c', rfl, -, hs'⟩ := Sl.of_own hown
  have hfar : ∀ g, g < w.heap.size ∨ w1.heap.size ≤ g → Far A' bs.length g := by
    intro g hg hpos b off he
    have hbk := hown.lt b (by subst he; rfl)
    omega
  have HS := hid hs'
  have HF := hid hfar
  have HB := hid hb
  clear hown hs' hfar hb
  go_wp2_with fail
  go_ret
  refine ⟨w1.heap.size, A', c', rfl, ⟨?_, HS.out.below ((Below.refl _ _).alloc (Nat.le_refl _) _), Nat.zero_le _, HF.out _ (.inr (Nat.le_refl _))⟩, HB.out.size, HF.out, bw_a HB.out _⟩
  rw [HN.out]
  exact Blk.new w1 _ _
end Go.Proofs.Ytealjpolomhdeaa
set_option linter.unusedVariables false
namespace Go.Proofs.Ytealjpolomhdeaa
section
variable {P : Program} {ops : Array Oper} {md : Region.Mode}
end
end Go.Proofs.Ytealjpolomhdeaa
set_option linter.unusedVariables false
namespace Go.Proofs.Ytealjpolomhdeaa
/-- A field of a kind, and the first version that has it. -/
structure SRow where
  kind : Nat
  since : Nat
  num : Nat
  typ : Nat
  slot : Nat
deriving DecidableEq, Inhabited
def ROWS : List SRow := [⟨1, 1, 1, 1, 0⟩, ⟨1, 1, 2, 1, 1⟩, ⟨1, 1, 3, 7, 0⟩, ⟨2, 1, 1, 1, 0⟩, ⟨2, 1, 2, 6, 1⟩, ⟨2, 2, 3, 7, 0⟩, ⟨3, 1, 1, 7, 0⟩, ⟨3, 1, 2, 9, 1⟩, ⟨3, 3, 3, 4, 0⟩, ⟨4, 1, 1, 7, 0⟩, ⟨4, 1, 2, 2, 0⟩, ⟨4, 2, 3, 7, 1⟩, ⟨4, 3, 4, 10, 0⟩, ⟨5, 1, 1, 2, 0⟩, ⟨5, 1, 2, 1, 1⟩, ⟨5, 1, 3, 7, 0⟩, ⟨5, 1, 4, 1, 2⟩, ⟨5, 1, 5, 4, 3⟩, ⟨5, 2, 6, 2, 4⟩, ⟨5, 3, 7, 10, 0⟩, ⟨6, 1, 1, 2, 0⟩, ⟨6, 1, 2, 1, 1⟩, ⟨6, 1, 3, 1, 2⟩, ⟨6, 1, 4, 4, 3⟩, ⟨6, 1, 5, 1, 4⟩, ⟨6, 2, 6, 8, 0⟩, ⟨6, 3, 7, 3, 5⟩, ⟨7, 1, 1, 2, 0⟩, ⟨7, 2, 2, 8, 0⟩, ⟨8, 2, 1, 2, 0⟩, ⟨9, 1, 1, 2, 0⟩, ⟨9, 1, 2, 1, 1⟩, ⟨9, 1, 3, 1, 2⟩, ⟨9, 2, 4, 10, 0⟩, ⟨9, 3, 5, 5, 3⟩, ⟨9, 3, 6, 3, 4⟩, ⟨10, 1, 1, 1, 0⟩, ⟨10, 1, 2, 8, 0⟩, ⟨10, 2, 3, 2, 1⟩, ⟨10, 3, 4, 6, 2⟩]
def rowAt (j : Nat) : SRow := ROWS.getD j default
theorem rowAt_mem (j : Nat) (h : j < 40) : rowAt j ∈ ROWS := by
  have h2 : j < ROWS.length := h
  unfold rowAt
  rw [List.getD_eq_getElem?_getD, List.getElem?_eq_getElem h2]
  exact List.getElem_mem h2
theorem rows_all (p : SRow → Bool) (h : ROWS.all p = true) (j : Nat) (hj : j < 40) : p (rowAt j) = true := List.all_eq_true.1 h _ (rowAt_mem j hj)
/-- What a row may be. -/
theorem rowAt_ok (j : Nat) (hj : j < 40) : 1 ≤ (rowAt j).kind ∧ (rowAt j).kind ≤ 10 ∧ 1 ≤ (rowAt j).since ∧ (rowAt j).since ≤ 3 ∧ 1 ≤ (rowAt j).num ∧ (rowAt j).num ≤ 7 ∧ 1 ≤ (rowAt j).typ ∧ (rowAt j).typ ≤ 10 ∧ (rowAt j).slot ≤ 5 := by
  have h := rows_all (fun r => decide (1 ≤ r.kind ∧ r.kind ≤ 10 ∧ 1 ≤ r.since ∧ r.since ≤ 3 ∧ 1 ≤ r.num ∧ r.num ≤ 7 ∧ 1 ≤ r.typ ∧ r.typ ≤ 10 ∧ r.slot ≤ 5)) (by decide) j hj
  simpa using h
/-- The fields that a version has. -/
def kn (v : Int) : List SRow := if 3 < v then [] else ROWS.filter fun r => decide ((r.since : Int) ≤ v)
/-- How many of the first rows a version has. -/
def cnt (v : Int) (j : Nat) : Nat := ((ROWS.take j).filter fun r => decide ((r.since : Int) ≤ v)).length
theorem take_row (j : Nat) (hj : j < 40) : ROWS.take (j + 1) = ROWS.take j ++ [rowAt j] := by
  have h2 : j < ROWS.length := hj
  rw [List.take_succ_eq_append_getElem h2]
  congr 2
  unfold rowAt
  rw [List.getD_eq_getElem?_getD, List.getElem?_eq_getElem h2]
  rfl
theorem cnt_has (v : Int) (j : Nat) (hj : j < 40) (h : ((rowAt j).since : Int) ≤ v) : cnt v (j + 1) = cnt v j + 1 := by
  unfold cnt
  rw [take_row j hj, List.filter_append, List.filter_cons_of_pos (by simpa using h), List.length_append]
  rfl
theorem cnt_not (v : Int) (j : Nat) (hj : j < 40) (h : ¬ ((rowAt j).since : Int) ≤ v) : cnt v (j + 1) = cnt v j := by
  unfold cnt
  rw [take_row j hj, List.filter_append, List.filter_cons_of_neg (by simpa using h), List.filter_nil, List.append_nil]
theorem kn_in (v : Int) (hv : ¬ 3 < v) : kn v = ROWS.filter fun r => decide ((r.since : Int) ≤ v) := by unfold kn; rw [if_neg hv]
theorem kn_out (v : Int) (hv : 3 < v) : kn v = [] := by unfold kn; rw [if_pos hv]
theorem cnt_all (v : Int) (hv : ¬ 3 < v) : cnt v 40 = (kn v).length := by
  unfold cnt
  rw [kn_in v hv]
  rfl
theorem kn_split (v : Int) (hv : ¬ 3 < v) (j : Nat) (hj : j < 40) (h : ((rowAt j).since : Int) ≤ v) : (kn v)[cnt v j]? = some (rowAt j) := by
  have hsp : ROWS = ROWS.take j ++ (rowAt j :: ROWS.drop (j + 1)) := by
    have h1 := List.take_append_drop (j + 1) ROWS
    rw [take_row j hj, List.append_assoc] at h1
    exact h1.symm
  have h2 : kn v = (ROWS.take j).filter (fun r => decide ((r.since : Int) ≤ v)) ++ (rowAt j :: (ROWS.drop (j + 1)).filter fun r => decide ((r.since : Int) ≤ v)) := by
    rw [kn_in v hv]
    conv => lhs; rw [hsp]
    rw [List.filter_append, List.filter_cons_of_pos (by simpa using h)]
  rw [h2]
  unfold cnt
  rw [List.getElem?_append_right (Nat.le_refl _)]
  simp
theorem cnt_lt (v : Int) (hv : ¬ 3 < v) (j : Nat) (hj : j < 40) (h : ((rowAt j).since : Int) ≤ v) : cnt v j < (kn v).length := (List.getElem?_eq_some_iff.1 (kn_split v hv j hj h)).1
theorem kn_mem (v : Int) {r : SRow} (h : r ∈ kn v) : r ∈ ROWS := by
  unfold kn at h
  split at h
  · simp at h
  · exact (List.mem_filter.1 h).1
theorem kn_len (v : Int) : (kn v).length ≤ 40 := by
  unfold kn
  split
  · simp
  · exact List.length_filter_le _ _
/-- The fields of a kind that a version has. -/
def ofL (k : Int) (v : Int) : List SRow := (kn v).filter fun r => decide ((r.kind : Int) = k)
end Go.Proofs.Ytealjpolomhdeaa
set_option linter.unusedVariables false
namespace Go.Proofs.Ytealjpolomhdeaa
open Go.RowKit Go.Shelf
attribute [local go_sem] Oper.semAt_some
def LIT : Array Value := #[.int .u8 1, .int .i64 1, .int .i64 1, .int .i64 1, .int .i64 0, .int .u8 1, .int .i64 1, .int .i64 2, .int .i64 1, .int .i64 1, .int .u8 1, .int .i64 1, .int .i64 3, .int .i64 7, .int .i64 0, .int .u8 2, .int .i64 1, .int .i64 1, .int .i64 1, .int .i64 0, .int .u8 2, .int .i64 1, .int .i64 2, .int .i64 6, .int .i64 1, .int .u8 2, .int .i64 2, .int .i64 3, .int .i64 7, .int .i64 0, .int .u8 3, .int .i64 1, .int .i64 1, .int .i64 7, .int .i64 0, .int .u8 3, .int .i64 1, .int .i64 2, .int .i64 9, .int .i64 1, .int .u8 3, .int .i64 3, .int .i64 3, .int .i64 4, .int .i64 0, .int .u8 4, .int .i64 1, .int .i64 1, .int .i64 7, .int .i64 0, .int .u8 4, .int .i64 1, .int .i64 2, .int .i64 2, .int .i64 0, .int .u8 4, .int .i64 2, .int .i64 3, .int .i64 7, .int .i64 1, .int .u8 4, .int .i64 3, .int .i64 4, .int .i64 10, .int .i64 0, .int .u8 5, .int .i64 1, .int .i64 1, .int .i64 2, .int .i64 0, .int .u8 5, .int .i64 1, .int .i64 2, .int .i64 1, .int .i64 1, .int .u8 5, .int .i64 1, .int .i64 3, .int .i64 7, .int .i64 0, .int .u8 5, .int .i64 1, .int .i64 4, .int .i64 1, .int .i64 2, .int .u8 5, .int .i64 1, .int .i64 5, .int .i64 4, .int .i64 3, .int .u8 5, .int .i64 2, .int .i64 6, .int .i64 2, .int .i64 4, .int .u8 5, .int .i64 3, .int .i64 7, .int .i64 10, .int .i64 0, .int .u8 6, .int .i64 1, .int .i64 1, .int .i64 2, .int .i64 0, .int .u8 6, .int .i64 1, .int .i64 2, .int .i64 1, .int .i64 1, .int .u8 6, .int .i64 1, .int .i64 3, .int .i64 1, .int .i64 2, .int .u8 6, .int .i64 1, .int .i64 4, .int .i64 4, .int .i64 3, .int .u8 6, .int .i64 1, .int .i64 5, .int .i64 1, .int .i64 4, .int .u8 6, .int .i64 2, .int .i64 6, .int .i64 8, .int .i64 0, .int .u8 6, .int .i64 3, .int .i64 7, .int .i64 3, .int .i64 5, .int .u8 7, .int .i64 1, .int .i64 1, .int .i64 2, .int .i64 0, .int .u8 7, .int .i64 2, .int .i64 2, .int .i64 8, .int .i64 0, .int .u8 8, .int .i64 2, .int .i64 1, .int .i64 2, .int .i64 0, .int .u8 9, .int .i64 1, .int .i64 1, .int .i64 2, .int .i64 0, .int .u8 9, .int .i64 1, .int .i64 2, .int .i64 1, .int .i64 1, .int .u8 9, .int .i64 1, .int .i64 3, .int .i64 1, .int .i64 2, .int .u8 9, .int .i64 2, .int .i64 4, .int .i64 10, .int .i64 0, .int .u8 9, .int .i64 3, .int .i64 5, .int .i64 5, .int .i64 3, .int .u8 9, .int .i64 3, .int .i64 6, .int .i64 3, .int .i64 4, .int .u8 10, .int .i64 1, .int .i64 1, .int .i64 1, .int .i64 0, .int .u8 10, .int .i64 1, .int .i64 2, .int .i64 8, .int .i64 0, .int .u8 10, .int .i64 2, .int .i64 3, .int .i64 2, .int .i64 1, .int .u8 10, .int .i64 3, .int .i64 4, .int .i64 6, .int .i64 2]
def rowV (r : SRow) : Value := .agg #[.int .u8 (r.kind : Nat), .int .i64 (r.since : Nat), .int .i64 (r.num : Nat), .int .i64 (r.typ : Nat), .int .i64 (r.slot : Nat)]
theorem lit_idx (W : World) : (j : Nat) → (h : j < 40) → (Instr.index 198 (.agg LIT) (.int .i64 (j : Nat))).run Try.prog W = .ok (rowV (rowAt j)) W
  | 0, _ => by as_aux_lemma => kernel_rfl
  | 1, _ => by as_aux_lemma => kernel_rfl
  | 2, _ => by as_aux_lemma => kernel_rfl
  | 3, _ => by as_aux_lemma => kernel_rfl
  | 4, _ => by as_aux_lemma => kernel_rfl
  | 5, _ => by as_aux_lemma => kernel_rfl
  | 6, _ => by as_aux_lemma => kernel_rfl
  | 7, _ => by as_aux_lemma => kernel_rfl
  | 8, _ => by as_aux_lemma => kernel_rfl
  | 9, _ => by as_aux_lemma => kernel_rfl
  | 10, _ => by as_aux_lemma => kernel_rfl
  | 11, _ => by as_aux_lemma => kernel_rfl
  | 12, _ => by as_aux_lemma => kernel_rfl
  | 13, _ => by as_aux_lemma => kernel_rfl
  | 14, _ => by as_aux_lemma => kernel_rfl
  | 15, _ => by as_aux_lemma => kernel_rfl
  | 16, _ => by as_aux_lemma => kernel_rfl
  | 17, _ => by as_aux_lemma => kernel_rfl
  | 18, _ => by as_aux_lemma => kernel_rfl
  | 19, _ => by as_aux_lemma => kernel_rfl
  | 20, _ => by as_aux_lemma => kernel_rfl
  | 21, _ => by as_aux_lemma => kernel_rfl
  | 22, _ => by as_aux_lemma => kernel_rfl
  | 23, _ => by as_aux_lemma => kernel_rfl
  | 24, _ => by as_aux_lemma => kernel_rfl
  | 25, _ => by as_aux_lemma => kernel_rfl
  | 26, _ => by as_aux_lemma => kernel_rfl
  | 27, _ => by as_aux_lemma => kernel_rfl
  | 28, _ => by as_aux_lemma => kernel_rfl
  | 29, _ => by as_aux_lemma => kernel_rfl
  | 30, _ => by as_aux_lemma => kernel_rfl
  | 31, _ => by as_aux_lemma => kernel_rfl
  | 32, _ => by as_aux_lemma => kernel_rfl
  | 33, _ => by as_aux_lemma => kernel_rfl
  | 34, _ => by as_aux_lemma => kernel_rfl
  | 35, _ => by as_aux_lemma => kernel_rfl
  | 36, _ => by as_aux_lemma => kernel_rfl
  | 37, _ => by as_aux_lemma => kernel_rfl
  | 38, _ => by as_aux_lemma => kernel_rfl
  | 39, _ => by as_aux_lemma => kernel_rfl
  | j + 40, h => absurd h (by omega)
theorem wpListIn_build_lit {F : Fence} {n : Nat} {P : Program} {w : World} {ops : Array Oper} {rest : List Oper} {o : Oper} {a : Act} {Q : Exit → Act → World → Prop} (hgd : o.guard = none) (t : TypeId) (parts : Array (Nat × Operand)) (ho : o.op = .build t parts)
    (v : Value) (hrun : (Instr.build t (parts.map fun (i, x) => (i, a.eval x))).run P w = .ok v w) (h : wpListIn F n P ops Q rest (a.put o.dst v) w) : wpListIn F n P ops Q (o :: rest) a w := by
  refine wpListIn_plain hgd fun K hK => ?_
  unfold Oper.wpIn
  refine ⟨?_, ?_⟩
  · simp [Oper.about, ho]
  · rw [Oper.semAt_plain F _ _ (by rw [ho]; intro c hc'; cases hc')]
    simp only [execOp, ho]
    rw [Sem.run_bind, hrun]
    exact hK _ _ h
set_option maxRecDepth 100000 in
set_option maxHeartbeats 4000000 in
theorem rows1_in (m : Nat) (hm : 1 ≤ m) (l : Nat) (J : Nat → World → Prop) (Jx : World → Prop) (hJn : ∀ j W W', J j W → Chg (fun _ => False) W W' → J j W')
    (hY : ∀ j W, j < 40 → J j W → YieldAt Fence.wide (m - 1) Try.prog l #[rowV (rowAt j)] W fun e W' => (e = .returned (.bool true) ∧ J (j + 1) W') ∨ (e = .returned (.bool false) ∧ Jx W'))
    (W : World) (h0 : J 0 W) :
    CallsIn Fence.wide m Try.prog 132 #[.func (.yield l) #[] #[]] W fun e W' => (∃ v, e = .returned v) ∧ (J 40 W' ∨ Jx W') := by
  have hidx := fun W j h => lit_idx W j h
  have HY := hid hY
  have HJN := hid hJn
  have HI := hid hidx
  clear hY hJn hidx
  refine callsIn_of_wp Try.func132 rfl trivial ?_ rfl
  simp only [Try.ntmps132, List.size_toArray, List.length_cons, List.length_nil, Nat.reduceAdd, Nat.reduceSub, Array.replicate_succ, Array.replicate_zero, List.push_toArray, List.append_toArray, List.nil_append, List.cons_append]
  gi_wp2_with (refine wpListIn_build_lit rfl 198 _ rfl (.agg LIT) (by as_aux_lemma => kernel_rfl) ?_)
  gi_loopw [3, 45] (fun _ p wr => ∃ (j : Nat), p = .int .i64 (j : Int) ∧ j ≤ 40 ∧ J j wr) (fun _ p _ => 40 - (intOf p).toNat)
  case atStart => exact ⟨0, rfl, by omega, h0⟩
  case round =>
    obtain ⟨j, rfl, hj, hJ⟩ := hrel
    by_cases hlt : j < 40
    · have hi := fun W => HI.out W j hlt
      unfold rowV at hi
      have hy0 := fun (W' : World) (hc : Chg (fun _ => False) wr W') => HY.out j W' hlt (HJN.out j wr W' hJ hc)
      unfold rowV at hy0
      generalize rowAt j = r at *
      obtain ⟨k, si, nu, ty, sl⟩ := r
      simp only at hi hy0
      obtain ⟨fn, tmps, assign, body, hy, hR⟩ := hy0 (wr.alloc (.cells #[.int .u8 (k : Nat), .int .i64 (si : Nat), .int .i64 (nu : Nat), .int .i64 (ty : Nat), .int .i64 (sl : Nat)] 166)) ((Chg.refl _ wr).alloc _)
      clear hy0
      gi_wp2
      refine hR.mono ?_
      rintro e W3 (⟨rfl, hJ3⟩ | ⟨rfl, hJx3⟩)
      · gi_wp2
        go_roundw
        case rel => exact ⟨j + 1, by go_num, by omega, hJ3⟩
        case measure => simp [intOf]; omega
      · gi_wp2
        refine bodyPost_ret (results_none rfl _ _ _) rfl ?_
        exact ⟨⟨_, rfl⟩, .inr hJx3⟩
    · obtain rfl : j = 40 := by omega
      gi_wp2
      go_end0
      exact ⟨⟨_, rfl⟩, .inl hJ⟩
end Go.Proofs.Ytealjpolomhdeaa
set_option linter.unusedVariables false
namespace Go.Proofs.Ytealjpolomhdeaa
open Go.RowKit
end Go.Proofs.Ytealjpolomhdeaa
set_option linter.unusedVariables false
namespace Go.Proofs.Ytealjpolomhdeaa
open Go.RowKit
structure St (t : TypeId) (w W : World) (q : Nat) (A : Option Addr) (c : Nat) (bs : List UInt8) (p : Nat) : Prop where
  r : Rin t W q A c bs p
  f : Blk W w.heap.size 32 #[.int .i64 0, .int .i64 0]
  o : Only q w W
  lt : q < w.heap.size
  far : ∀ g, w.heap.size ≤ g → Far A bs.length g
section
variable {t : TypeId} {w W W' : World} {q : Nat} {A : Option Addr} {c : Nat} {bs : List UInt8} {p : Nat}
theorem St.below (h : St t w W q A c bs p) (hb : Below W.heap.size W W') : St t w W' q A c bs p :=
  ⟨h.r.below hb, h.f.below hb h.f.lt, h.o.trans (.of_below hb), h.lt, h.far⟩
theorem St.drewN (h : St t w W q A c bs p) (n : Nat) : St t w (W.drewN n) q A c bs p := h.below (below_drewN (Below.refl _ _) n)
theorem St.alloc (h : St t w W q A c bs p) (o : Obj) : St t w (W.alloc o) q A c bs p := h.below ((Below.refl _ _).alloc (Nat.le_refl _) o)
theorem St.only {p' : Nat} (h : St t w W q A c bs p) (ho : Only q W W') (hr : Rin t W' q A c bs p') : St t w W' q A c bs p' :=
  ⟨hr, ho.blk h.f (by have := h.lt; omega), h.o.trans ho, h.lt, h.far⟩
theorem St.move (h : St t w W q A c bs p) (p' : Nat) (hp : p' ≤ bs.length) : St t w (W.setCell ⟨q, 1, none⟩ (.int .i64 (p' : Int))) q A c bs p' := by
  have ho := (Only.refl q W).set_ 1 (.int .i64 (p' : Int))
  refine h.only ho (h.r.move ho ?_ hp)
  have hb := h.r.blk.set_ 1 (.int .i64 (p' : Int))
  simpa using hb
theorem St.c0 (h : St t w W q A c bs p) : W.cell? ⟨q, 0, none⟩ = some (.slice A bs.length c) := by simpa using h.r.blk.cell 0
theorem St.c1 (h : St t w W q A c bs p) : W.cell? ⟨q, 1, none⟩ = some (.int .i64 (p : Int)) := by simpa using h.r.blk.cell 1
theorem St.r1 (h : St t w W q A c bs p) : W.frozen? ⟨q, 1, none⟩ = false := h.r.blk.frozen 1
theorem St.d0 (h : St t w W q A c bs p) : W.cell? ⟨w.heap.size, 0, none⟩ = some (.int .i64 0) := h.f.cell 0
theorem St.d1 (h : St t w W q A c bs p) : W.cell? ⟨w.heap.size, 1, none⟩ = some (.int .i64 0) := h.f.cell 1
theorem St.f0 (h : St t w W q A c bs p) : W.frozen? ⟨w.heap.size, 0, none⟩ = false := h.f.frozen 0
theorem St.f1 (h : St t w W q A c bs p) : W.frozen? ⟨w.heap.size, 1, none⟩ = false := h.f.frozen 1
theorem St.dl (h : St t w W q A c bs p) : w.heap.size < W.heap.size := h.f.lt
theorem St.fin (h : St t w W q A c bs p) (u v : Value) : Rin t ((W.setCell ⟨w.heap.size, 0, none⟩ u).setCell ⟨w.heap.size, 1, none⟩ v) q A c bs p ∧ Only q w ((W.setCell ⟨w.heap.size, 0, none⟩ u).setCell ⟨w.heap.size, 1, none⟩ v) := by
  have hl := h.lt
  refine ⟨(h.r.far_set (by omega) (h.far _ (Nat.le_refl _)) _ _).far_set (by omega) (h.far _ (Nat.le_refl _)) _ _, ?_⟩
  exact (h.o.new_ (Nat.le_refl _) _ _).new_ (Nat.le_refl _) _ _
end
end Go.Proofs.Ytealjpolomhdeaa
set_option linter.unusedVariables false
namespace Go.Proofs.Ytealjpolomhdeaa
open Go.RowKit
end Go.Proofs.Ytealjpolomhdeaa
set_option linter.unusedVariables false
namespace Go.Proofs.Ytealjpolomhdeaa
open Go.RowKit
end Go.Proofs.Ytealjpolomhdeaa
set_option linter.unusedVariables false
namespace Go.Proofs.Ytealjpolomhdeaa
open Go.RowKit
end Go.Proofs.Ytealjpolomhdeaa
set_option linter.unusedVariables false
namespace Go.Proofs.Ytealjpolomhdeaa
open Go.RowKit
end Go.Proofs.Ytealjpolomhdeaa
set_option linter.unusedVariables false
namespace Go.Proofs.Ytealjpolomhdeaa
open Go.RowKit
end Go.Proofs.Ytealjpolomhdeaa
set_option linter.unusedVariables false
namespace Go.Proofs.Ytealjpolomhdeaa
open Go.RowKit Go.Shelf
attribute [local go_sem] Oper.semAt_some
def specV (r : SRow) : Value := .agg #[.int .i64 (r.num : Nat), .int .i64 (r.typ : Nat), .int .i64 (r.slot : Nat)]
def specC (r : SRow) : List Value := [.int .i64 (r.num : Nat), .int .i64 (r.typ : Nat), .int .i64 (r.slot : Nat)]
def knAt (v : Int) (k : Nat) : SRow := (kn v).getD k default
def kArgs (r : SRow) : Array Value := #[.int .u8 (r.kind : Nat), specV r]
theorem knAt_cnt (v : Int) (hv : ¬ 3 < v) (j : Nat) (hj : j < 40) (h : ((rowAt j).since : Int) ≤ v) : knAt v (cnt v j) = rowAt j := by
  unfold knAt
  rw [List.getD_eq_getElem?_getD, kn_split v hv j hj h]
  rfl
theorem rows_in (m : Nat) (w : World) :
    CallsIn Fence.wide m Try.prog 109 #[] w fun e w' => e = .returned (.func (.func 132) #[] #[]) ∧ w' = w := by
  refine callsIn_of_wp Try.func109 rfl trivial ?_ rfl
  simp only [Try.ntmps109, List.size_toArray, List.length_nil, Nat.reduceSub, Array.replicate_succ, Array.replicate_zero, List.push_toArray, List.append_toArray, List.nil_append]
  gi_wp2
  go_ret
  exact ⟨rfl, rfl⟩
theorem known_in (m : Nat) (v : Int) (w : World) :
    CallsIn Fence.wide m Try.prog 82 #[.int .i64 v] w fun e w' => e = .returned (.func (.func 108) #[] #[.pointer (some ⟨w.heap.size, 0, none⟩)]) ∧ w' = w.alloc (.cells #[.int .i64 v] 3) := by
  refine callsIn_of_wp Try.func82 rfl trivial ?_ rfl
  simp only [Try.ntmps82, List.size_toArray, List.length_cons, List.length_nil, Nat.reduceAdd, Nat.reduceSub, Array.replicate_succ, Array.replicate_zero, List.push_toArray, List.append_toArray, List.nil_append, List.cons_append]
  gi_wp2
  go_ret
  exact ⟨rfl, rfl⟩
set_option maxRecDepth 100000 in
set_option maxHeartbeats 4000000 in
theorem known1_in (m : Nat) (hm : 3 ≤ m) (l Bv : Nat) (v : Int) (hv1 : -9223372036854775808 ≤ v) (hv2 : v ≤ 9223372036854775807) (J : Nat → World → Prop) (Jx : World → Prop) (B0 : Nat) (hB0 : Bv < B0)
    (hJc : ∀ k W, J k W → W.cell? ⟨Bv, 0, none⟩ = some (.int .i64 v))
    (hJn : ∀ k W W', J k W → Chg (fun q => B0 ≤ q ∧ q < B0 + 3) W W' → J k W')
    (hY : ∀ k W, k < (kn v).length → J k W → B0 + 3 ≤ W.heap.size → YieldAt Fence.wide (m - 1) Try.prog l (kArgs (knAt v k)) W fun e W' => (e = .returned (.bool true) ∧ J (k + 1) W' ∧ KN B0 3 W W') ∨ (e = .returned (.bool false) ∧ Jx W' ∧ KN B0 3 W W'))
    (W : World) (hW : W.heap.size = B0) (h0 : J 0 W) :
    CallsIn Fence.wide m Try.prog 108 #[.func (.yield l) #[] #[], .pointer (some ⟨Bv, 0, none⟩)] W fun e W' => (∃ v, e = .returned v) ∧ (J (kn v).length W' ∨ ∃ W0, Jx W0 ∧ Chg (fun q => B0 ≤ q ∧ q < B0 + 3) W0 W') := by
  have hc0 := hJc 0 W h0
  have hbl := World.block_lt_of_cell? W _ hc0
  have h1 : 1 ≤ m := by omega
  have HY := hid hY
  have HJC := hid hJc
  have HJN := hid hJn
  clear hY hJc hJn
  refine callsIn_of_wp_marks Try.func108 rfl trivial ?_ rfl
  simp only [Try.ntmps108, List.size_toArray, List.length_cons, List.length_nil, Nat.reduceAdd, Nat.reduceSub, Array.replicate_succ, Array.replicate_zero, List.push_toArray, List.append_toArray, List.nil_append, List.cons_append]
  by_cases hv : 3 < v
  · rw [kn_out v hv]
    gi_wp2
    exact ⟨_, results_none rfl _ _ _, ⟨_, rfl⟩, .inl (HJN.out 0 _ _ h0 ((Chg.refl _ W).alloc _))⟩
  · have HV := hid hv
    gi_wp2_with (refine ⟨trivial, ?_⟩; gi_at_call 109; refine (rows_in (m - 1) _).mono ?_; rintro e w' ⟨rfl, rfl⟩)
    have hkb : Blk (W.alloc (.cells #[.func (.yield l) #[] #[]] 161)) B0 161 #[.func (.yield l) #[] #[]] := by rw [← hW]; exact Blk.new W _ _
    have hJa := HJN.out 0 _ _ h0 ((Chg.refl (fun q => B0 ≤ q ∧ q < B0 + 3) W).alloc (.cells #[.func (.yield l) #[] #[]] 161))
    obtain ⟨Wa, hWa⟩ : ∃ Wa, W.alloc (.cells #[.func (.yield l) #[] #[]] 161) = Wa := ⟨_, rfl⟩
    have hza : Wa.heap.size = B0 + 1 := by rw [← hWa, World.size_alloc, hW]
    rw [hWa] at hkb hJa ⊢
    clear hWa
    refine range_wide m (by omega) (B0 + 1) hza (gf := 132) (lb := #[]) rfl (enters_of Try.func132 (by kernel_rfl) rfl) 40 (fun j => #[rowV (rowAt j)]) (fun _ => rfl) 0
      (fun j W' => J (cnt v j) W' ∧ Blk W' B0 161 #[.func (.yield l) #[] #[]]) (fun c W' => c = .ret ∧ ∃ W0, Jx W0 ∧ Chg (fun q => B0 ≤ q ∧ q < B0 + 3) W0 W') ?_ ?_ ?_ ?_ ?_ ?_ ?_
    · rintro j W1 W2 ⟨a1, a2⟩ hc
      exact ⟨HJN.out _ _ _ a1 (hc.mono fun q _ hq => by omega), hc.blk a2 (by omega)⟩
    · rintro c W1 W2 ⟨a1, W0, a2, a3⟩ hc
      exact ⟨a1, W0, a2, a3.trans (hc.mono fun q _ hq => by omega)⟩
    · exact ⟨hJa, hkb⟩
    · intro l2 J2 Jx2 W1 hw1 hJI hJn2 _ hJ0 hy
      exact rows1_in (m - 1) (by omega) l2 J2 Jx2 (fun j W W' h hc => hJn2 j W W' h (hc.mono fun q _ hq => hq.elim)) (fun j W hj h => by
          obtain ⟨fn, tm, as1, bd, e1, e2⟩ := hy j W hj h (hJI j W h).2
          refine ⟨fn, tm, as1, bd, e1, e2.mono ?_⟩
          rintro e W' (⟨h1, h2, -⟩ | ⟨h1, h2, -⟩)
          · exact .inl ⟨h1, h2⟩
          · exact .inr ⟨h1, h2⟩) W1 hJ0
    · rintro l2 j W1 hj ⟨a1, a2⟩ hsz
      have hrow := rowAt_ok j hj
      have hhas := cnt_has v j hj
      have hnot := cnt_not v j hj
      have hkl := cnt_lt v (by have := HV.out; omega) j hj
      have hka := knAt_cnt v (by have := HV.out; omega) j hj
      unfold rowV
      generalize rowAt j = r at *
      obtain ⟨k, si, nu, ty, sl⟩ := r
      simp only at hhas hnot hkl hka hrow
      gi_wp2
      have hca : Chg (fun _ => False) W1 (W1.alloc (.cells #[.int .u8 (k : Nat), .int .i64 (si : Nat), .int .i64 (nu : Nat), .int .i64 (ty : Nat), .int .i64 (sl : Nat)] 166)) := (Chg.refl _ W1).alloc _
      have hkr := Blk.new W1 166 #[.int .u8 (k : Nat), .int .i64 (si : Nat), .int .i64 (nu : Nat), .int .i64 (ty : Nat), .int .i64 (sl : Nat)]
      refine ⟨KN.of_chg hca (by omega) (fun q _ _ h => h), by omega, fun W2 hc2 => ?_⟩
      have hj2 : J (cnt v j) W2 := HJN.out _ _ _ a1 ((hca.mono fun q _ h => h.elim).trans (hc2.mono fun q _ h => by omega))
      have hk2 := hc2.blk hkr (by have := hkr.lt; omega)
      have hkb2 := hc2.blk (hca.blk a2 (fun h => h)) (by omega)
      have hcv := HJC.out _ _ hj2
      have d0 := hk2.cell 0
      have d1 := hk2.cell 1
      have d2 := hk2.cell 2
      have d3 := hk2.cell 3
      have d4 := hk2.cell 4
      have e0 := hkb2.cell 0
      simp only [List.getElem?_toArray, List.getElem?_cons_zero, List.getElem?_cons_succ] at d0 d1 d2 d3 d4 e0
      have hsz2 : B0 + 3 ≤ W2.heap.size := by have := hc2.size; rw [World.size_alloc] at this; omega
      by_cases hsi : (si : Int) ≤ v
      · have hyk := HY.out (cnt v j) W2 (hkl (by omega)) hj2 hsz2
        rw [hka (by omega)] at hyk
        unfold kArgs specV at hyk
        simp only at hyk
        obtain ⟨fn, tmps, as1, bd, hy, hR⟩ := hyk
        have HKB := hid hkb2
        have HN := hid (hhas (by omega))
        have hge : ¬ v < (si : Int) := by omega
        clear hhas hnot hkl hka hk2 hkb2 hj2 a1 a2 hkr hca
        gi_wp2
        refine ⟨fun _ => by omega, ?_⟩
        have hR2 : RoundIn (Fence.wide.inRound l2) (m - 1 - 1 - 1) Try.prog l fn tmps as1 bd W2 _ := ⟨hR.1, fun c cs _ => hR.2 c cs (by simp [Fence.room, Fence.wide])⟩
        refine hR2.mono ?_
        rintro e W3 (⟨rfl, hj3, hkn⟩ | ⟨rfl, hx3, hkn⟩)
        · gi_wp2
          refine ⟨hkn.sub (by omega) (by omega), ?_, (hkn B0 (Nat.le_refl _) (by omega)).trans HKB.out⟩
          rw [HN.out]
          exact hj3
        · gi_wp2
          exact ⟨hkn.sub (by omega) (by omega), rfl, W3, hx3, Chg.refl _ _⟩
      · have hlt : v < (si : Int) := by omega
        have HJ2 := hid hj2
        have HKB := hid hkb2
        have HN := hid (hnot (by omega))
        have HSI := hid hsi
        clear hhas hnot hkl hka hk2 hkb2 hj2 a1 a2 hkr hca
        gi_wp2
        refine ⟨KN.refl _ _ _, ?_, HKB.out⟩
        rw [HN.out]
        exact HJ2.out
    · rintro W1 ⟨a1, a2⟩ hd
      rw [cnt_all v (by have := HV.out; omega)] at a1
      have hM : Marks (B0 + 1) W1 [B0 + 1] := (Marks.nil_ _ _).cons_ (Nat.le_refl _) (by simp) hd
      refine leaves_marks (B0 + 1) [B0 + 1] W1 hM fun W6 h6 => ?_
      exact ⟨_, results_none rfl _ _ _, ⟨_, rfl⟩, .inl (HJN.out _ _ _ a1 (h6.mono fun q _ hq => by simp at hq; omega))⟩
    · rintro c W1 ⟨rfl, W0, a1, a2⟩ hd
      gi_wp2
      have hM : Marks (B0 + 1) W1 [B0 + 1] := (Marks.nil_ _ _).cons_ (Nat.le_refl _) (by simp) hd
      refine leaves_marks (B0 + 1) [B0 + 1] W1 hM fun W6 h6 => ?_
      exact ⟨_, results_none rfl _ _ _, ⟨_, rfl⟩, .inr ⟨W0, a1, a2.trans (h6.mono fun q _ hq => by simp at hq; omega)⟩⟩
end Go.Proofs.Ytealjpolomhdeaa
set_option linter.unusedVariables false
namespace Go.Proofs.Ytealjpolomhdeaa
open Go.RowKit Go.Shelf
attribute [local go_sem] Oper.semAt_some
theorem Try.infoSpec : (Try.prog.info? 62).map (fun i => (i.zero, i.size, i.bytes)) = some (some (.agg #[.int .i64 0, .int .i64 0, .int .i64 0]), 3, 24) := by kernel_rfl
def accL (v k : Int) (j : Nat) : List SRow := ((kn v).take j).filter fun r => decide ((r.kind : Int) = k)
theorem knAt_take (v : Int) (j : Nat) (hj : j < (kn v).length) : (kn v).take (j + 1) = (kn v).take j ++ [knAt v j] := by
  rw [List.take_succ_eq_append_getElem hj]
  congr 2
  unfold knAt
  rw [List.getD_eq_getElem?_getD, List.getElem?_eq_getElem hj]
  rfl
theorem accL_has (v k : Int) (j : Nat) (hj : j < (kn v).length) (h : ((knAt v j).kind : Int) = k) : accL v k (j + 1) = accL v k j ++ [knAt v j] := by
  unfold accL
  rw [knAt_take v j hj, List.filter_append, List.filter_cons_of_pos (by simpa using h)]
  rfl
theorem accL_not (v k : Int) (j : Nat) (hj : j < (kn v).length) (h : ¬ ((knAt v j).kind : Int) = k) : accL v k (j + 1) = accL v k j := by
  unfold accL
  rw [knAt_take v j hj, List.filter_append, List.filter_cons_of_neg (by simpa using h), List.filter_nil, List.append_nil]
theorem accL_all (v k : Int) : accL v k (kn v).length = ofL k v := by
  unfold accL ofL
  rw [List.take_length]
theorem accL_len (v k : Int) (j : Nat) : (accL v k j).length ≤ 40 := by
  unfold accL
  have h1 := List.length_filter_le (fun r : SRow => decide ((r.kind : Int) = k)) ((kn v).take j)
  have h2 := kn_len v
  rw [List.length_take] at h1
  omega
theorem specC_len (l : List SRow) : (l.flatMap specC).length = l.length * 3 := by
  induction l with
  | nil => rfl
  | cons r l ih => rw [List.flatMap_cons, List.length_append, ih, List.length_cons]; show 3 + _ = _; omega
/-- What holds between two rounds of Of. -/
structure OfJ (s : Nat) (w : World) (v k : Int) (L : List SRow) (vv : Value) (W : World) : Prop where
  r0 : Blk W s 5 #[.int .u8 k]
  r1 : Blk W (s + 1) 48 #[vv]
  r2 : Blk W (s + 2) 3 #[.int .i64 v]
  row : W.ownsRow (s + 8) 62 3 vv L.length (L.flatMap specC)
  bel : Below s w W
theorem OfJ.keep {s : Nat} {w W W' : World} {v k : Int} {L : List SRow} {vv : Value} {S : Nat → Prop} (h : OfJ s w v k L vv W) (hc : Chg S W W') (hS : ∀ q, S q → s + 3 ≤ q ∧ q < s + 8) : OfJ s w v k L vv W' := by
  have g := h.r2.lt
  exact ⟨hc.blk h.r0 (fun hq => by have := hS _ hq; omega), hc.blk h.r1 (fun hq => by have := hS _ hq; omega), hc.blk h.r2 (fun hq => by have := hS _ hq; omega), own_chgS h.row hc (fun g hg hk => by have := (h.row.lt g hg).1; have := hS _ hk; omega), h.bel.trans (hc.below (B := s) (fun q hq => by have := hS q hq; omega) (by omega))⟩
theorem OfJ.step {s : Nat} {w W w1 : World} {v k : Int} {L : List SRow} {r : SRow} {vv v' : Value} {o : Obj} (h : OfJ s w v k L vv W) (hg : (W.alloc o).grownBy w1 vv.ownBlock)
    (ho' : w1.ownsRow (s + 8) 62 3 v' (L.length + 1) (L.flatMap specC ++ specC r)) : OfJ s w v k (L ++ [r]) v' (w1.setCell ⟨s + 1, 0, none⟩ v') ∧ Chg (fun q => q = s + 1 ∨ s + 8 ≤ q) W (w1.setCell ⟨s + 1, 0, none⟩ v') := by
  have hb1 : Chg (fun q => s + 8 ≤ q) W w1 := ((Chg.refl _ W).alloc o).trans (Chg.of_grown hg fun g e => (h.row.lt g e).1)
  have hc1 : Chg (fun q => q = s + 1 ∨ s + 8 ≤ q) W w1 := hb1.mono fun q _ hq => .inr hq
  have hc : Chg (fun q => q = s + 1 ∨ s + 8 ≤ q) W (w1.setCell ⟨s + 1, 0, none⟩ v') := hc1.set_ (.inl (.inl rfl)) 0 v'
  have hv1 : Blk w1 (s + 1) 48 #[vv] := hb1.blk h.r1 (by omega)
  have hv2 := hv1.set_ 0 v'
  have g := h.r2.lt
  refine ⟨⟨hc.blk h.r0 (by omega), by simpa using hv2, hc.blk h.r2 (by omega), ?_, h.bel.trans (hc.below (fun q hq => by omega) (by omega))⟩, hc⟩
  have h2 := own_chgS ho' ((Chg.refl (fun q => q = s + 1) w1).set_ (.inl rfl) 0 v') (fun g hg' hk => by have := (ho'.lt g hg').1; omega)
  rw [List.length_append, List.flatMap_append]
  simpa using h2
set_option maxRecDepth 100000 in
set_option maxHeartbeats 4000000 in
theorem sof2_in (m : Nat) (hm : 4 ≤ m) (k v : Int) (w : World) (hv1 : -9223372036854775808 ≤ v) (hv2 : v ≤ 9223372036854775807) :
    CallsIn Fence.wide m Try.prog 56 #[.int .u8 k, .int .i64 v] w fun e W' => ∃ vv, e = .returned (.tuple #[vv, .bool (decide (0 < (ofL k v).length))]) ∧ W'.ownsRow (w.heap.size + 1) 62 3 vv (ofL k v).length ((ofL k v).flatMap specC) ∧ Below w.heap.size w W' := by
  have h1 : 1 ≤ m := by omega
  obtain ⟨i5, hi5, hi50, hi51, hi52⟩ := info_parts Try.infoSpec
  refine callsIn_of_wp_marks Try.func56 rfl trivial ?_ rfl
  simp only [Try.ntmps56, List.size_toArray, List.length_cons, List.length_nil, Nat.reduceAdd, Nat.reduceSub, Array.replicate_succ, Array.replicate_zero, List.push_toArray, List.append_toArray, List.nil_append, List.cons_append]
  gi_wp2_with (refine ⟨trivial, ?_⟩; gi_at_call 82; refine (known_in (m - 1) v _).mono ?_; rintro e w' ⟨rfl, rfl⟩)
  obtain ⟨s, hsz⟩ : ∃ s, w.heap.size = s := ⟨_, rfl⟩
  obtain ⟨Wa, hWa⟩ : ∃ Wa, ((w.alloc (.cells #[.int .u8 k] 5)).alloc (.cells #[.slice none 0 0] 48)).alloc (.cells #[.int .i64 v] 3) = Wa := ⟨_, rfl⟩
  have hza : Wa.heap.size = s + 3 := by rw [← hWa]; simp [hsz]
  have hj0 : OfJ s w v k (accL v k 0) (.slice none 0 0) Wa := by
    refine ⟨?_, ?_, ?_, World.ownsRow_nil _ _ _ _, ?_⟩
    · rw [← hWa, ← hsz]; exact ((Blk.new w _ _).alloc _).alloc _
    · have h := (Blk.new (w.alloc (.cells #[.int .u8 k] 5)) 48 #[.slice none 0 0]).alloc (.cells #[.int .i64 v] 3)
      rw [hWa, World.size_alloc, hsz] at h; exact h
    · have h := Blk.new ((w.alloc (.cells #[.int .u8 k] 5)).alloc (.cells #[.slice none 0 0] 48)) 3 #[.int .i64 v]
      rw [hWa, World.size_alloc, World.size_alloc, hsz] at h; exact h
    · rw [← hWa, ← hsz]; exact bw_a (bw_a (bw_a (Below.refl _ w) _) _) _
  rw [hWa, hsz]
  clear hWa
  refine range_wide m (by omega) (s + 3) hza (gf := 108) (lb := #[.pointer (some ⟨s + 2, 0, none⟩)]) rfl (enters_of Try.func108 (by kernel_rfl) rfl) (kn v).length (fun j => kArgs (knAt v j)) (fun _ => rfl) 3
    (fun j W' => ∃ vv, OfJ s w v k (accL v k j) vv W') (fun c W' => False) ?_ ?_ ?_ ?_ ?_ ?_ ?_
  · rintro j W1 W2 ⟨vv, a1⟩ hc
    exact ⟨vv, a1.keep hc (fun q hq => by omega)⟩
  · rintro c W1 W2 h _
    exact h.elim
  · exact ⟨_, hj0⟩
  · intro l2 J2 Jx2 W1 hw1 hJI hJn2 hJs hJ0 hy
    refine (known1_in (m - 1) (by omega) l2 (s + 2) v hv1 hv2 J2 Jx2 (s + 5) (by omega) (fun j W h => by obtain ⟨⟨vv, h1⟩, h2⟩ := hJI j W h; exact h1.r2.cell 0) (fun j W W' h hc => hJn2 j W W' h (hc.mono fun q _ hq => by omega)) (fun j W hj h hz => hy j W hj h (by omega)) W1 (by omega) hJ0).mono ?_
    rintro e W' ⟨h1, (h2 | ⟨W0, h2, h3⟩)⟩
    · exact ⟨h1, .inl h2⟩
    · exact ⟨h1, .inr (hJs _ _ h2 (h3.mono fun q _ hq => by omega))⟩
  · rintro l2 j W1 hj ⟨vv, a1⟩ hsz2
    have hhas := accL_has v k j hj
    have hnot := accL_not v k j hj
    have hlen := accL_len v k j
    have hlf := specC_len (accL v k j)
    unfold kArgs specV
    generalize knAt v j = r at *
    obtain ⟨rk, si, nu, ty, sl⟩ := r
    simp only at hhas hnot
    have HH := hid hhas
    have HN := hid hnot
    clear hhas hnot
    generalize accL v k j = L at *
    gi_wp2
    have hca : Chg (fun _ => False) W1 (W1.alloc (.cells #[.int .i64 (nu : Nat), .int .i64 (ty : Nat), .int .i64 (sl : Nat)] 62)) := (Chg.refl _ W1).alloc _
    have hkr := Blk.new W1 62 #[.int .i64 (nu : Nat), .int .i64 (ty : Nat), .int .i64 (sl : Nat)]
    refine ⟨KN.of_chg hca (by omega) (fun q _ _ h => h), by rw [World.size_alloc]; omega, fun W2 hc2 => ?_⟩
    have hj2 := (a1.keep hca (fun q h => h.elim)).keep hc2 (fun q h => by omega)
    have hk2 := hc2.blk hkr (by omega)
    have hlt2 := hk2.lt
    have c0 := hj2.r0.cell 0
    have c1 := hj2.r1.cell 0
    have f1 := hj2.r1.frozen 0
    have d0 := hk2.cell 0
    have d1 := hk2.cell 1
    have d2 := hk2.cell 2
    simp only [List.getElem?_toArray, List.getElem?_cons_zero, List.getElem?_cons_succ] at c0 c1 d0 d1 d2
    have HJ := hid hj2
    clear hj2 hk2 hca hkr a1
    by_cases hk : (rk : Int) = k
    · have hkb : ((rk : Int) == k) = true := by simpa using hk
      gi_wp2_with (gi_at_builtin; refine wpListIn_append_rd _ rfl _ _ 48 rfl (s + 8) 62 i5 (.agg #[.int .i64 0, .int .i64 0, .int .i64 0]) 3 24 Try.underlying48 hi5 hi50 hi51 hi52 rfl (by decide) vv L.length (L.flatMap specC) rfl (HJ.out.row.alloc _) ⟨W2.heap.size, 0, none⟩ 1 1 [.int .i64 (nu : Nat), .int .i64 (ty : Nat), .int .i64 (sl : Nat)] rfl rfl (Rd.new W2 62 #[.int .i64 (nu : Nat), .int .i64 (ty : Nat), .int .i64 (sl : Nat)]) (by simp [Value.oneCell']) (by simp only [maxLen]; omega) (by omega) (by simp; omega) ?_; intro v' w1 hown' hgrow; obtain ⟨g', cap', rfl⟩ := ownsRow_succ hown'; have hst := OfJ.step (r := ⟨rk, si, nu, ty, sl⟩) HJ.out hgrow hown'; have hg1 : some (s + 1) ≠ vv.ownBlock := (fun e => by have := (HJ.out.row.lt _ e.symm).1; omega); have hw1 := (hgrow.block (s + 1) (by have := HJ.out.r1.lt; simp; omega) hg1).trans (HJ.out.r1.alloc _); have hc1 := Blk.cell hw1 0; have hf1 := Blk.frozen hw1 0; simp only [List.getElem?_toArray, List.getElem?_cons_zero] at hc1)
      obtain ⟨hj5, hc5⟩ := hst
      exact ⟨KN.of_chg hc5 (by omega) (fun q g1 g2 => by omega), _, by rw [HH.out hk]; exact hj5⟩
    · have hkb : ((rk : Int) == k) = false := by simpa using hk
      gi_wp2
      exact ⟨KN.refl _ _ _, _, by rw [HN.out hk]; exact HJ.out⟩
  · rintro W1 ⟨vv, a1⟩ hd
    rw [accL_all] at a1
    have hlen : (ofL k v).length ≤ 40 := by rw [← accL_all]; exact accL_len _ _ _
    obtain ⟨L, hL⟩ : ∃ L, ofL k v = L := ⟨_, rfl⟩
    rw [hL] at a1 hlen
    obtain ⟨A, c, rfl⟩ : ∃ A c, vv = .slice A L.length c := by
      rcases a1.row.2 with ⟨rfl, h⟩ | ⟨g, cap, cur, rfl, _⟩
      · exact ⟨none, 0, by rw [h]⟩
      · exact ⟨_, _, rfl⟩
    have c1 := a1.r1.cell 0
    simp only [List.getElem?_toArray, List.getElem?_cons_zero] at c1
    have hmx : Try.prog.follows .mixedOrders = true := by kernel_rfl
    have HJ := hid a1
    have HD := hid hd
    clear a1 hd
    gi_wp2
    gi_quiet (fail)
    gi_wp2
    have hM : Marks (s + 3) (W1.drewN nq) [s + 3] := (Marks.nil_ _ _).cons_ (Nat.le_refl _) (by simp) HD.out
    refine leaves_marks (s + 3) [s + 3] _ hM fun W6 h6 => ?_
    have hj : OfJ s w v k L (.slice A L.length c) (W1.drewN nq) := ⟨HJ.out.r0, HJ.out.r1, HJ.out.r2, HJ.out.row, ⟨HJ.out.bel.os, HJ.out.bel.tape, HJ.out.bel.output, HJ.out.bel.size, HJ.out.bel.block⟩⟩
    have hj6 := hj.keep h6 (fun q hq => by simp at hq; omega)
    refine ⟨.tuple #[.slice A L.length c, .bool (decide (0 < L.length))], by simp [results, Try.results56, go_sem], _, by rw [hL], ?_, ?_⟩
    · rw [hL, hsz]; exact own_mono hj6.row (by omega)
    · rw [hsz]; exact hj6.bel
  · rintro c W1 h _
    exact h.elim
end Go.Proofs.Ytealjpolomhdeaa
set_option linter.unusedVariables false
namespace Go.Proofs.Ytealjpolomhdeaa
open Go.RowKit Go.Shelf
attribute [local go_sem] Oper.semAt_some
def kvN (k : Nat) : Value := .int .u8 (k : Nat)
/-- What holds between two rounds of Kinds. -/
structure KiJ (s : Nat) (w : World) (v : Int) (L : List Nat) (last : Nat) (vv : Value) (W : World) : Prop where
  r0 : Blk W s 22 #[vv]
  r1 : Blk W (s + 1) 5 #[.int .u8 (last : Nat)]
  r2 : Blk W (s + 2) 3 #[.int .i64 v]
  row : W.ownsRow (s + 8) 5 1 vv L.length (L.map kvN)
  bel : Below s w W
theorem KiJ.keep {s : Nat} {w W W' : World} {v : Int} {L : List Nat} {last : Nat} {vv : Value} {S : Nat → Prop} (h : KiJ s w v L last vv W) (hc : Chg S W W') (hS : ∀ q, S q → s + 3 ≤ q ∧ q < s + 8) : KiJ s w v L last vv W' := by
  have g := h.r2.lt
  exact ⟨hc.blk h.r0 (fun hq => by have := hS _ hq; omega), hc.blk h.r1 (fun hq => by have := hS _ hq; omega), hc.blk h.r2 (fun hq => by have := hS _ hq; omega), own_chgS h.row hc (fun g hg hk => by have := (h.row.lt g hg).1; have := hS _ hk; omega), h.bel.trans (hc.below (B := s) (fun q hq => by have := hS q hq; omega) (by omega))⟩
theorem KiJ.last {s : Nat} {w W : World} {v : Int} {L : List Nat} {last : Nat} {vv : Value} (h : KiJ s w v L last vv W) (r : Nat) : KiJ s w v L r vv (W.setCell ⟨s + 1, 0, none⟩ (.int .u8 (r : Nat))) ∧ Chg (fun q => q = s + 1) W (W.setCell ⟨s + 1, 0, none⟩ (.int .u8 (r : Nat))) := by
  have hc : Chg (fun q => q = s + 1) W (W.setCell ⟨s + 1, 0, none⟩ (.int .u8 (r : Nat))) := (Chg.refl (fun q => q = s + 1) W).set_ (.inl rfl) 0 _
  have g := h.r2.lt
  exact ⟨⟨hc.blk h.r0 (by omega), by simpa using h.r1.set_ 0 (.int .u8 (r : Nat)), hc.blk h.r2 (by omega), own_chgS h.row hc (fun g hg hk => by have := (h.row.lt g hg).1; omega), h.bel.trans (hc.below (fun q hq => by omega) (by omega))⟩, hc⟩
theorem KiJ.step {s : Nat} {w W w1 : World} {v : Int} {L : List Nat} {last r : Nat} {vv v' : Value} {o : Obj} (h : KiJ s w v L last vv W) (hg : (W.alloc o).grownBy w1 vv.ownBlock)
    (ho' : w1.ownsRow (s + 8) 5 1 v' (L.length + 1) (L.map kvN ++ [kvN r])) : KiJ s w v (L ++ [r]) last v' (w1.setCell ⟨s, 0, none⟩ v') ∧ Chg (fun q => q = s ∨ s + 8 ≤ q) W (w1.setCell ⟨s, 0, none⟩ v') := by
  have hb1 : Chg (fun q => s + 8 ≤ q) W w1 := ((Chg.refl _ W).alloc o).trans (Chg.of_grown hg fun g e => (h.row.lt g e).1)
  have hc1 : Chg (fun q => q = s ∨ s + 8 ≤ q) W w1 := hb1.mono fun q _ hq => .inr hq
  have hc : Chg (fun q => q = s ∨ s + 8 ≤ q) W (w1.setCell ⟨s, 0, none⟩ v') := hc1.set_ (.inl (.inl rfl)) 0 v'
  have hv1 : Blk w1 s 22 #[vv] := hb1.blk h.r0 (by omega)
  have hv2 := hv1.set_ 0 v'
  have g := h.r2.lt
  refine ⟨⟨by simpa using hv2, hc.blk h.r1 (by omega), hc.blk h.r2 (by omega), ?_, h.bel.trans (hc.below (fun q hq => by omega) (by omega))⟩, hc⟩
  have h2 := own_chgS ho' ((Chg.refl (fun q => q = s) w1).set_ (.inl rfl) 0 v') (fun g hg' hk => by have := (ho'.lt g hg').1; omega)
  rw [List.length_append, List.map_append]
  simpa using h2
end Go.Proofs.Ytealjpolomhdeaa
set_option linter.unusedVariables false
namespace Go.Proofs.Ytealjpolomhdeaa
open Go.RowKit Go.Shelf
attribute [local go_sem] Oper.semAt_some
def pF (k n : Int) (r : SRow) : Bool := decide ((r.kind : Int) = k ∧ (r.num : Int) = n)
def finS (k v n : Int) : Option SRow := (kn v).find? (pF k n)
def specO : Option SRow → Value
  | none => .agg #[.int .i64 0, .int .i64 0, .int .i64 0]
  | some r => specV r
/-- What holds between two rounds of Find. -/
structure FiJ (s : Nat) (w : World) (v k n : Int) (W : World) : Prop where
  r0 : Blk W s 5 #[.int .u8 k]
  r1 : Blk W (s + 1) 3 #[.int .i64 n]
  r2 : Blk W (s + 2) 62 #[.int .i64 0, .int .i64 0, .int .i64 0]
  r3 : Blk W (s + 3) 4 #[.bool false]
  r4 : Blk W (s + 4) 3 #[.int .i64 v]
  bel : Below s w W
theorem FiJ.keep {s : Nat} {w W W' : World} {v k n : Int} {S : Nat → Prop} (h : FiJ s w v k n W) (hc : Chg S W W') (hS : ∀ q, S q → s + 5 ≤ q) : FiJ s w v k n W' := by
  have g := h.r4.lt
  exact ⟨hc.blk h.r0 (fun hq => by have := hS _ hq; omega), hc.blk h.r1 (fun hq => by have := hS _ hq; omega), hc.blk h.r2 (fun hq => by have := hS _ hq; omega), hc.blk h.r3 (fun hq => by have := hS _ hq; omega), hc.blk h.r4 (fun hq => by have := hS _ hq; omega), h.bel.trans (hc.below (B := s) (fun q hq => by have := hS q hq; omega) (by omega))⟩
/-- What holds when Find has found. -/
structure FiX (s : Nat) (w : World) (r : SRow) (W : World) : Prop where
  r2 : Blk W (s + 2) 62 #[.int .i64 (r.num : Nat), .int .i64 (r.typ : Nat), .int .i64 (r.slot : Nat)]
  r3 : Blk W (s + 3) 4 #[.bool true]
  bel : Below s w W
theorem FiX.keep {s : Nat} {w W W' : World} {r : SRow} {S : Nat → Prop} (h : FiX s w r W) (hc : Chg S W W') (hS : ∀ q, S q → s + 5 ≤ q) : FiX s w r W' := by
  have g := h.r3.lt
  exact ⟨hc.blk h.r2 (fun hq => by have := hS _ hq; omega), hc.blk h.r3 (fun hq => by have := hS _ hq; omega), h.bel.trans (hc.below (B := s) (fun q hq => by have := hS q hq; omega) (by omega))⟩
end Go.Proofs.Ytealjpolomhdeaa
set_option linter.unusedVariables false
namespace Go.Proofs.Ytealjpolomhdeaa
theorem kn_one (v : Int) : v = 1 ∨ v = 2 ∨ v = 3 ∨ ((v < 1 ∨ 3 < v) ∧ kn v = []) := by
  by_cases h : 3 < v
  · exact .inr (.inr (.inr ⟨.inr h, kn_out v h⟩))
  by_cases h1 : v < 1
  · refine .inr (.inr (.inr ⟨.inl h1, ?_⟩))
    rw [kn_in v h, List.filter_eq_nil_iff]
    intro r hr
    have h2 := List.all_eq_true.1 (show ROWS.all (fun r => decide (1 ≤ r.since)) = true by decide) r hr
    simp at h2 ⊢
    omega
  omega
theorem ofL_nil (k v : Int) (h : kn v = []) : ofL k v = [] := by unfold ofL; rw [h]; rfl
theorem ofL_kind (k : Nat) (v : Int) (hk : k = 0 ∨ 10 < k) : ofL k v = [] := by
  unfold ofL
  rw [List.filter_eq_nil_iff]
  intro r hr
  have h2 := List.all_eq_true.1 (show ROWS.all (fun r => decide (1 ≤ r.kind ∧ r.kind ≤ 10)) = true by decide) r (kn_mem v hr)
  simp at h2 ⊢
  omega
/-- A type's sort: a number, a text, a list. -/
def sortN (t : Int) : Nat := if t ≤ 6 then 0 else if t < 10 then 1 else 2
/-- Whether a version's rows of a kind are in a later one, and unlike. -/
def growB (k : Nat) (v : Int) : Bool :=
  (List.range (ofL k v).length).all fun i =>
    ([1, 2, 3].all fun l => !decide (v ≤ l) || decide (finS k l (((ofL k v).getD i default).num : Int) = some ((ofL k v).getD i default))) &&
    (List.range i).all fun j => decide (((ofL k v).getD j default).num < ((ofL k v).getD i default).num) && !(decide (sortN ((ofL k v).getD j default).typ = sortN ((ofL k v).getD i default).typ ∧ ((ofL k v).getD j default).slot = ((ofL k v).getD i default).slot))
theorem growB_1 : (List.range 11).all (fun k => growB k 1) = true := by decide +kernel
theorem growB_2 : (List.range 11).all (fun k => growB k 2) = true := by decide +kernel
theorem growB_3 : (List.range 11).all (fun k => growB k 3) = true := by decide +kernel
theorem growB_all (k : Nat) (v : Int) : growB k v = true := by
  by_cases hk : k ≤ 10
  · rcases kn_one v with rfl | rfl | rfl | ⟨-, h0⟩
    · exact List.all_eq_true.1 growB_1 k (by simp; omega)
    · exact List.all_eq_true.1 growB_2 k (by simp; omega)
    · exact List.all_eq_true.1 growB_3 k (by simp; omega)
    · unfold growB; rw [ofL_nil _ _ h0]; rfl
  · unfold growB; rw [ofL_kind k v (by omega)]; rfl
theorem getD_get {l : List SRow} {i : Nat} (h : i < l.length) : l.getD i default = l[i] := by
  rw [List.getD_eq_getElem?_getD, List.getElem?_eq_getElem h]; rfl
theorem grow_apart (k : Nat) (v : Int) (i j : Nat) (hi : i < (ofL k v).length) (hj : j < i) : (ofL k v)[j].num < (ofL k v)[i].num ∧ ¬ (sortN (ofL k v)[j].typ = sortN (ofL k v)[i].typ ∧ (ofL k v)[j].slot = (ofL k v)[i].slot) := by
  have h := growB_all k v
  unfold growB at h
  have h1 := List.all_eq_true.1 h i (by simpa using hi)
  rw [Bool.and_eq_true] at h1
  have h2 := List.all_eq_true.1 h1.2 j (by simpa using hj)
  rw [getD_get hi, getD_get (by omega : j < (ofL k v).length)] at h2
  rw [Bool.and_eq_true] at h2
  refine ⟨by simpa using h2.1, fun h3 => ?_⟩
  have h4 := h2.2
  rw [Bool.not_eq_true', decide_eq_false_iff_not] at h4
  exact h4 h3
theorem ofL_le40 (k v : Int) : (ofL k v).length ≤ 40 := by rw [← accL_all]; exact accL_len _ _ _
theorem ofL_mem (k v : Int) {r : SRow} (h : r ∈ ofL k v) : r ∈ ROWS := kn_mem v (List.mem_filter.1 h).1
theorem row_ok {r : SRow} (h : r ∈ ROWS) : 1 ≤ r.kind ∧ r.kind ≤ 10 ∧ 1 ≤ r.since ∧ r.since ≤ 3 ∧ 1 ≤ r.num ∧ r.num ≤ 7 ∧ 1 ≤ r.typ ∧ r.typ ≤ 10 ∧ r.slot ≤ 5 := by
  have h := List.all_eq_true.1 (show ROWS.all (fun r => decide (1 ≤ r.kind ∧ r.kind ≤ 10 ∧ 1 ≤ r.since ∧ r.since ≤ 3 ∧ 1 ≤ r.num ∧ r.num ≤ 7 ∧ 1 ≤ r.typ ∧ r.typ ≤ 10 ∧ r.slot ≤ 5)) = true by decide) r h
  simpa using h
end Go.Proofs.Ytealjpolomhdeaa
