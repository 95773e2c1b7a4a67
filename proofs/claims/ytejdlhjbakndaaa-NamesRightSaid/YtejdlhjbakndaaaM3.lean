/- Opening the arguments of a statement: what came in, as lists. · What came in, whatever its type: cells that read as data are the cells of some value of a Lean type. · varint.Short, tag.Head, and what is awake in layers 1 and 2. · The walks of layer 1's statements. · The walks of VarintBack and VarintAll. · The walk of VarintBack. · The walk of VarintAll. · The walks of layer 2's statements. · The walks of TagBack and TagFixed. · The walk of WholeHeads. -/
import Derived.Test.YtejdlhjbakndaaaM1
import Derived.ProofKit
import Derived.OpenShut
import Derived.ChangeOld
import Derived.Below
import Derived.Test.YtejdlhjbakndaaaM2
import Derived.Deep.RegionWith
import Derived.Deep.RegionHeld3
import Derived.Deep.QuietTactic
import Derived.BigQuiet
set_option linter.unusedVariables false
namespace Go.Proofs.Ytejdlhjbakndaaa
open Go.ChangeShapes Go.WideShapes Go.ChangeAt Go.RowKit

theorem wf_u64 {n : Int} (h : (Lit.int .u64 n).wf = true) : 0 ≤ n ∧ n ≤ 18446744073709551615 := by simpa [Lit.wf, IntKind.min, IntKind.max, IntKind.signed, IntKind.bits] using h
theorem wf_i64 {n : Int} (h : (Lit.int .i64 n).wf = true) : -9223372036854775808 ≤ n ∧ n ≤ 9223372036854775807 := by simpa [Lit.wf, IntKind.min, IntKind.max, IntKind.signed, IntKind.bits] using h
theorem wf_u32 {n : Int} (h : (Lit.int .u32 n).wf = true) : 0 ≤ n ∧ n ≤ 4294967295 := by simpa [Lit.wf, IntKind.min, IntKind.max, IntKind.signed, IntKind.bits] using h
theorem wf_u8 {n : Int} (h : (Lit.int .u8 n).wf = true) : 0 ≤ n ∧ n ≤ 255 := by simpa [Lit.wf, IntKind.min, IntKind.max, IntKind.signed, IntKind.bits] using h

section
variable {H : Type} {enc : TypeId × Value → H} {P : Program} {W : World} {base : Nat} {spare : Nat → Bool} {held : Bool} {t e : TypeId} {A : Option Addr} {len cap : Nat} {d : DataW H} {p : List MemPlace}
/-- a slice of integers that came in, its elements -/
theorem ints_of {k : IntKind} (ht : P.underlying t = some (.slice e)) (he : P.underlying e = some (.int k)) (hc : P.cellsOf e = 1) (h : DataW.Trod enc P W base spare held t (.slice A len cap) d p) :
    ∃ zs : List Int, zs.length = len ∧ (∀ n ∈ zs, (Lit.int k n).wf = true) ∧ Sl W A cap (zs.map (Value.int k)) := by
  obtain ⟨fuel, hf⟩ := h
  rcases open_ints ht he hc hf with ⟨hcs, _⟩ | ⟨x, l, c, zs, hcs, _, hl, hm, hz, _, hcell, hwz⟩
  · simp [Value.cells] at hcs
    obtain ⟨rfl, rfl, rfl⟩ := hcs
    exact ⟨[], rfl, by simp, Sl.nil_ W⟩
  · simp [Value.cells] at hcs
    obtain ⟨rfl, rfl, rfl⟩ := hcs
    have hzl : len ≤ zs.length := by rw [hz]; split <;> omega
    refine ⟨zs.take len, by rw [List.length_take]; omega, fun n hn => hwz n (List.mem_of_mem_take hn), ⟨by simp; omega, hm, (fun h => by cases h), fun j u hj => ?_⟩⟩
    rw [List.getElem?_map, List.getElem?_take] at hj
    split at hj
    · rename_i hjl
      have hc := hcell j (by omega)
      rw [List.getElem?_eq_getElem (by omega)] at hj
      simp only [Option.map_some, Option.some.injEq] at hj
      rw [List.getD_eq_getElem?_getD, List.getElem?_eq_getElem (by omega), Option.getD_some, hj] at hc
      have hlt := World.block_lt_of_cell? W _ hc
      obtain ⟨b, off, spot⟩ := x
      cases spot with
      | none => exact ⟨b, off, rfl, by rwa [addr_add] at hlt, by rwa [addr_add] at hc⟩
      | some s =>
        have h0 := hcell 0 (by omega)
        simp [World.cell?, Addr.add] at h0
        split at h0 <;> simp at h0
    · cases hj
/-- bytes that came in -/
theorem bytes_of (ht : P.underlying t = some (.slice e)) (he : P.underlying e = some (.int .u8)) (hc : P.cellsOf e = 1) (h : DataW.Trod enc P W base spare held t (.slice A len cap) d p) :
    ∃ bs : List UInt8, bs.length = len ∧ Sl W A cap (bs.map bv) := by
  obtain ⟨zs, hl, hw, hs⟩ := ints_of ht he hc h
  refine ⟨zs.map fun z => b8 z.toNat, by simpa using hl, ?_⟩
  have e : (zs.map fun z => b8 z.toNat).map bv = zs.map (Value.int .u8) := by
    rw [List.map_map]
    apply List.map_congr_left
    intro z hz
    have := wf_u8 (hw z hz)
    simp only [Function.comp]
    rw [bv_b8 _ (by omega), Int.toNat_of_nonneg this.1]
  rw [e]; exact hs
/-- numbers that came in -/
theorem nums_of (ht : P.underlying t = some (.slice e)) (he : P.underlying e = some (.int .u64)) (hc : P.cellsOf e = 1) (h : DataW.Trod enc P W base spare held t (.slice A len cap) d p) :
    ∃ ns : List Nat, ns.length = len ∧ (∀ n ∈ ns, n ≤ 18446744073709551615) ∧ Sl W A cap (ns.map nv) := by
  obtain ⟨zs, hl, hw, hs⟩ := ints_of ht he hc h
  refine ⟨zs.map Int.toNat, by simpa using hl, ?_, ?_⟩
  · intro n hn
    obtain ⟨z, hz, rfl⟩ := List.mem_map.1 hn
    have := wf_u64 (hw z hz)
    omega
  · have e : (zs.map Int.toNat).map nv = zs.map (Value.int .u64) := by
      rw [List.map_map]
      apply List.map_congr_left
      intro z hz
      have := wf_u64 (hw z hz)
      simp only [Function.comp, nv]
      rw [Int.toNat_of_nonneg this.1]
    rw [e]; exact hs
end
end Go.Proofs.Ytejdlhjbakndaaa
set_option linter.unusedVariables false
namespace Go.Proofs.Ytejdlhjbakndaaa
open Go.ChangeShapes Go.WideShapes Go.ChangeAt Go.RowKit

/-- Cells of type t that read as data are enc a for some a that is ok. -/
def Opens (P : Program) (W : World) (t : TypeId) {α : Type} (enc : α → List Value) (ok : α → Prop) : Prop :=
  ∀ (H : Type) (en : TypeId × Value → H) (base : Nat) (spare : Nat → Bool) (held : Bool) (fuel : Nat) (cs : List Value) (x : DataW H × List MemPlace),
    DataW.trod en P W base spare held fuel t cs = some x → ∃ a : α, cs = enc a ∧ ok a
/-- A slice of n elements of so many cells each. -/
structure SlN (w : World) (A : Option Addr) (n c size : Nat) (flat : List Value) : Prop where
  len : flat.length = n * size
  cap : n ≤ c
  small : c ≤ 9223372036854775807
  nil0 : A = none → c = 0
  rd : Rd w A flat
theorem SlN.below {w w' : World} {A : Option Addr} {n c size : Nat} {xs : List Value} (h : SlN w A n c size xs) (hb : Below w.heap.size w w') : SlN w' A n c size xs := ⟨h.len, h.cap, h.small, h.nil0, h.rd.below hb⟩
/-- A slice value: where it lies, its capacity, what it holds. -/
structure SlV (α : Type) where
  A : Option Addr
  c : Nat
  xs : List α
section
variable {P : Program} {W : World} {t e : TypeId} {α β : Type}
theorem Opens.use {enc : α → List Value} {ok : α → Prop} (ho : Opens P W t enc ok) {H : Type} {en : TypeId × Value → H} {base : Nat} {spare : Nat → Bool} {held : Bool} {v : Value} {d : DataW H} {p : List MemPlace}
    (h : DataW.Trod en P W base spare held t v d p) : ∃ a, v.cells.toList = enc a ∧ ok a := let ⟨_, hf⟩ := h; ho _ _ _ _ _ _ _ _ hf
theorem sl_inj {A A' : Option Addr} {n n' c c' : Nat} (h : (Value.slice A n c).cells.toList = [Value.slice A' n' c']) : A = A' ∧ n = n' ∧ c = c' := by simpa [Value.cells] using h
theorem opens_int {k : IntKind} (ht : P.underlying t = some (.int k)) : Opens P W t (fun n : Int => [.int k n]) (fun n => (Lit.int k n).wf = true) :=
  fun H en base spare held fuel cs x h => let ⟨n, hc, _, hw⟩ := DataW.trod_int ht h; ⟨n, hc, hw⟩
theorem opens_bool (ht : P.underlying t = some .bool) : Opens P W t (fun b : Bool => [.bool b]) (fun _ => True) :=
  fun H en base spare held fuel cs x h => let ⟨n, hc, _⟩ := DataW.trod_bool ht h; ⟨n, hc, trivial⟩
theorem opens_string (ht : P.underlying t = some .string) : Opens P W t (fun s : ByteArray => [.string s]) (fun s => s.size ≤ 9223372036854775807) :=
  fun H en base spare held fuel cs x h => let ⟨n, hc, _, hw⟩ := DataW.trod_string ht h; ⟨n, hc, hw⟩
theorem Opens.imp {enc : α → List Value} {ok ok' : α → Prop} (h : Opens P W t enc ok) (hi : ∀ a, ok a → ok' a) : Opens P W t enc ok' :=
  fun H en base spare held fuel cs x hx => let ⟨a, hc, ho⟩ := h H en base spare held fuel cs x hx; ⟨a, hc, hi a ho⟩
/-- Another Lean type for the same cells. -/
theorem Opens.map {enc : α → List Value} {ok : α → Prop} {enc' : β → List Value} {ok' : β → Prop} (h : Opens P W t enc ok) (f : α → β) (hi : ∀ a, ok a → enc a = enc' (f a) ∧ ok' (f a)) : Opens P W t enc' ok' :=
  fun H en base spare held fuel cs x hx => let ⟨a, hc, ho⟩ := h H en base spare held fuel cs x hx; ⟨f a, hc.trans (hi a ho).1, (hi a ho).2⟩
theorem opens_struct2 {f0 f1 : Field} {k0 k1 : Nat} {enc0 : α → List Value} {ok0 : α → Prop} {enc1 : β → List Value} {ok1 : β → Prop} (ht : P.underlying t = some (.struct #[f0, f1]))
    (o0 : f0.offset = 0) (o1 : f1.offset = k0) (c0 : P.cellsOf f0.type = k0) (c1 : P.cellsOf f1.type = k1) (hC : P.cellsOf t = k0 + k1) (h0 : Opens P W f0.type enc0 ok0) (h1 : Opens P W f1.type enc1 ok1) :
    Opens P W t (fun p : α × β => enc0 p.1 ++ enc1 p.2) (fun p => ok0 p.1 ∧ ok1 p.2) := by
  intro H en base spare held fuel cs x h
  obtain ⟨xs, n, _, _, hl, hlen, hf⟩ := DataW.trod_struct ht h
  have g0 := hf 0 f0 rfl
  have g1 := hf 1 f1 rfl
  rw [o0, c0, List.drop_zero, List.getElem?_eq_getElem (by rw [hlen]; show 0 < 2; omega)] at g0
  rw [o1, c1, List.getElem?_eq_getElem (by rw [hlen]; show 1 < 2; omega)] at g1
  obtain ⟨a, ha, hoa⟩ := h0 _ _ _ _ _ _ _ _ g0
  obtain ⟨b, hb, hob⟩ := h1 _ _ _ _ _ _ _ _ g1
  refine ⟨(a, b), ?_, hoa, hob⟩
  show cs = enc0 a ++ enc1 b
  rw [← ha, ← hb, List.take_of_length_le (l := cs.drop k0) (by rw [List.length_drop, hl, hC]; omega), List.take_append_drop]
theorem flatMap_get {γ : Type} (enc : γ → List Value) (size : Nat) : ∀ (xs : List γ) (i j : Nat) (hi : i < xs.length), (∀ x ∈ xs, (enc x).length = size) → j < size →
    (xs.flatMap enc)[i * size + j]? = (enc xs[i])[j]?
  | [], i, _, hi, _, _ => by simp at hi
  | x :: xs, 0, j, _, h, hj => by
    rw [List.flatMap_cons, Nat.zero_mul, Nat.zero_add, List.getElem?_append_left (by rw [h x (by simp)]; exact hj)]; rfl
  | x :: xs, i + 1, j, hi, h, hj => by
    have hx := h x (by simp)
    rw [List.flatMap_cons, List.getElem?_append_right (by rw [hx, Nat.add_mul]; omega), hx,
      show (i + 1) * size + j - size = i * size + j from by rw [Nat.add_mul]; omega,
      flatMap_get enc size xs i j (by simpa using hi) (fun y hy => h y (by simp [hy])) hj]
    simp
theorem flatMap_length {γ : Type} (enc : γ → List Value) (size : Nat) : ∀ (xs : List γ), (∀ x ∈ xs, (enc x).length = size) → (xs.flatMap enc).length = xs.length * size
  | [], _ => by simp
  | x :: xs, h => by rw [List.flatMap_cons, List.length_append, h x (by simp), flatMap_length enc size xs (fun y hy => h y (by simp [hy])), List.length_cons, Nat.add_mul]; omega
theorem list_choose {γ : Type} {n : Nat} {p : Nat → γ → Prop} (h : ∀ i, i < n → ∃ a, p i a) : ∃ l : List γ, l.length = n ∧ ∀ i (hi : i < l.length), p i l[i] := by
  induction n with
  | zero => exact ⟨[], rfl, fun i hi => by simp at hi⟩
  | succ n ih =>
    obtain ⟨l, hl, hp⟩ := ih fun i hi => h i (by omega)
    obtain ⟨a, ha⟩ := h n (by omega)
    refine ⟨l ++ [a], by simp [hl], fun i hi => ?_⟩
    by_cases hin : i < l.length
    · rw [List.getElem_append_left hin]; exact hp i hin
    · obtain rfl : i = n := by simp [hl] at hi; omega
      rw [List.getElem_append_right (by omega)]; simpa [hl] using ha
theorem opens_slice {size : Nat} {enc : α → List Value} {ok : α → Prop} (ht : P.underlying t = some (.slice e)) (hc : P.cellsOf e = size) (hsz : 0 < size) (hlen : ∀ a, (enc a).length = size) (he : Opens P W e enc ok) :
    Opens P W t (fun s : SlV α => [.slice s.A s.xs.length s.c]) (fun s => (∀ x ∈ s.xs, ok x) ∧ SlN W s.A s.xs.length s.c size (s.xs.flatMap enc)) := by
  intro H en base spare held fuel cs x h
  rcases DataW.trod_slice ht h with ⟨rfl, _⟩ | ⟨a, len, cap, elems, rest, n, _, rfl, _, hb, hl, hm, hel, hat, _, _⟩
  · exact ⟨⟨none, 0, []⟩, rfl, by simp, ⟨by simp, by simp, by simp, fun _ => rfl, fun k u hk => by simp at hk⟩⟩
  · have each : ∀ i, i < len → ∃ v : α, ok v ∧ ∀ j, j < size → W.cell? (a.add (i * size + j)) = (enc v)[j]? := by
      intro i hi
      have hh := hat i hi
      rw [List.getElem?_eq_getElem (by omega), hc, Option.bind_eq_some_iff] at hh
      obtain ⟨cs', hcs, hy⟩ := hh
      obtain ⟨v, hv, hok⟩ := he _ _ _ _ _ _ _ _ hy
      obtain ⟨_, hcl, hcell⟩ := World.cells?_some hcs
      refine ⟨v, hok, fun j hj => ?_⟩
      have := hcell j hj
      rw [hv] at this
      rw [← this]
      congr 1
      unfold Addr.add
      by_cases h1 : i * size = 0 <;> by_cases h2 : j = 0 <;> simp [h1, h2, Nat.add_assoc] <;> omega
    obtain ⟨l, hll, hp⟩ := list_choose each
    have hle : ∀ x ∈ l, (enc x).length = size := fun x _ => hlen x
    refine ⟨⟨some a, cap, l⟩, by show _ = [Value.slice (some a) l.length cap]; rw [hll], ?_, ⟨flatMap_length enc size l hle, (by show l.length ≤ cap; rw [hll]; exact hl), hm, (fun h => by cases h), fun k u hk => ?_⟩⟩
    · intro x hx
      obtain ⟨i, hi, rfl⟩ := List.getElem_of_mem hx
      exact (hp i hi).1
    · have hk2 := (List.getElem?_eq_some_iff.1 hk).1
      rw [flatMap_length enc size l hle] at hk2
      have hi : k / size < l.length := Nat.div_lt_of_lt_mul (by rw [Nat.mul_comm]; exact hk2)
      have hj : k % size < size := Nat.mod_lt _ hsz
      have hkk : k / size * size + k % size = k := by rw [Nat.mul_comm]; exact Nat.div_add_mod k size
      have g := flatMap_get enc size l (k / size) (k % size) hi hle hj
      rw [hkk, hk] at g
      have hcell := (hp (k / size) hi).2 (k % size) hj
      rw [hkk, ← g] at hcell
      have hlt := World.block_lt_of_cell? W _ hcell
      obtain ⟨b, off, spot⟩ := a
      cases spot with
      | none => exact ⟨b, off, rfl, by rwa [addr_add] at hlt, by rwa [addr_add] at hcell⟩
      | some s =>
        have hl0 : 0 < l.length := Nat.lt_of_le_of_lt (Nat.zero_le _) hi
        have h0 := (hp 0 hl0).2 0 hsz
        have h1 : ∃ u, (enc (l[0]'hl0))[0]? = some u := ⟨_, List.getElem?_eq_getElem (by rw [hlen]; exact hsz)⟩
        obtain ⟨u, hu⟩ := h1
        rw [hu] at h0
        simp [World.cell?, Addr.add] at h0
        split at h0 <;> simp at h0
end
end Go.Proofs.Ytejdlhjbakndaaa
set_option linter.unusedVariables false
namespace Go.Proofs.Ytejdlhjbakndaaa
open Go.RowKit
def shortB (bs : List UInt8) : Bool := decide ((M.get bs).2.2 = 0 ∧ (M.get bs).2.1 = sizeN (M.get bs).1)
def headL (n x : Int) : List UInt8 := if (mk n x).2 = 0 then putN (mk n x).1.toNat else []
theorem mk_facts (n x : Int) (h0 : 0 ≤ x) (h1 : x ≤ 255) : 0 ≤ (mk n x).1 ∧ (mk n x).1 ≤ 4294967295 ∧ 0 ≤ (mk n x).2 ∧ (mk n x).2 ≤ 7 := by
  unfold mk
  split
  · simp
  · split
    · simp
    · rename_i h h'
      have := wireB_lt (x := x) (by simpa using h')
      simp; omega
theorem put300 : putN 300 = [172, 2] := by rw [putN_big (by omega), putN_small (by omega)]; rfl
theorem short300 : shortB [172, 2] = true := by
  unfold shortB
  rw [show M.get [172, 2] = (300, 2, 0) from by decide]
  simp [sizeN]
end Go.Proofs.Ytejdlhjbakndaaa
set_option linter.unusedVariables false
namespace Go.Proofs.Ytejdlhjbakndaaa
open Go.RowKit
theorem putN_size (n : Nat) : (putN n).length = sizeN n := by
  induction n using Nat.strongRecOn with
  | _ n ih =>
    rw [sizeN]
    by_cases h : n < 128
    · rw [if_pos h, putN_small h]; rfl
    · rw [if_neg h, putN_big h, List.length_cons, ih (n / 128) (by omega)]; omega
end Go.Proofs.Ytejdlhjbakndaaa
set_option linter.unusedVariables false
namespace Go.Proofs.Ytejdlhjbakndaaa
open Go.RowKit
/-- What is read of a number's bytes, whatever stands behind. -/
theorem getF_put (n : Nat) (rest : List UInt8) : ∀ i acc, i ≤ 9 → acc + n * 128 ^ i ≤ 18446744073709551615 →
    M.getF i acc (putN n ++ rest) = (acc + n * 128 ^ i, i + (putN n).length, 0) := by
  induction n using Nat.strongRecOn with
  | _ n ih =>
    intro i acc hi h
    by_cases hs : n < 128
    · rw [putN_small hs]
      simp only [List.cons_append, List.nil_append, M.getF, b8_toNat (show n < 256 by omega), List.length_cons, List.length_nil]
      by_cases h9 : i = 9
      · subst h9
        have : n ≤ 1 := by omega
        rw [if_pos rfl, if_neg (by omega), if_neg (by omega)]
      · rw [if_neg h9, if_pos hs]
    · rw [putN_big hs]
      simp only [List.cons_append, M.getF, b8_toNat (show n % 128 + 128 < 256 by omega), List.length_cons]
      have h9 : i ≠ 9 := by
        rintro rfl
        have : n * 128 ^ 9 ≥ 128 * 128 ^ 9 := Nat.mul_le_mul_right _ (by omega)
        omega
      have e1 : acc + (n % 128 + 128 - 128) * 128 ^ i + n / 128 * 128 ^ (i + 1) = acc + n * 128 ^ i := by
        rw [Nat.pow_succ, Nat.add_sub_cancel, Nat.mul_comm (128 ^ i) 128, ← Nat.mul_assoc, Nat.add_assoc, ← Nat.add_mul]
        congr 2; omega
      rw [if_neg h9, if_neg (by omega), ih (n / 128) (by omega) (i + 1) _ (by omega) (by rw [e1]; exact h), e1]
      congr 2; omega
theorem get_put {n : Nat} (rest : List UInt8) (h : n ≤ 18446744073709551615) : M.get (putN n ++ rest) = (n, (putN n).length, 0) := by
  have := getF_put n rest 0 0 (by omega) (by omega)
  simpa [M.get] using this
/-- What is short is written as it stood. -/
theorem put_getF : ∀ (b : List UInt8) (i acc : Nat), i ≤ 9 → acc < 128 ^ i → (M.getF i acc b).2.2 = 0 → 
    ∃ v, (M.getF i acc b).1 = acc + v * 128 ^ i ∧ i + sizeN v ≤ (M.getF i acc b).2.1 ∧ (i + sizeN v = (M.getF i acc b).2.1 → putN v = b.take ((M.getF i acc b).2.1 - i))
  | [], i, acc, _, _, h => by simp [M.getF] at h
  | x :: r, i, acc, hi, ha, h => by
    have hx := x.toNat_lt
    rw [M.getF] at h ⊢
    by_cases h9 : i = 9
    · subst h9
      rw [if_pos rfl] at h ⊢
      by_cases h1 : 128 ≤ x.toNat
      · rw [if_pos h1] at h; simp at h
      · by_cases h2 : 1 < x.toNat
        · rw [if_neg h1, if_pos h2] at h; simp at h
        · rw [if_neg h1, if_neg h2]
          refine ⟨x.toNat, rfl, by rw [sizeN, if_pos (by omega)]; simp, fun _ => ?_⟩
          rw [putN_small (by omega), b8_self]; rfl
    · rw [if_neg h9] at h ⊢
      by_cases h1 : x.toNat < 128
      · rw [if_pos h1]
        refine ⟨x.toNat, rfl, by rw [sizeN, if_pos h1]; simp, fun _ => ?_⟩
        rw [putN_small h1, b8_self]; simp
      · rw [if_neg h1] at h ⊢
        obtain ⟨v, hv, hs, hp⟩ := put_getF r (i + 1) _ (by omega) (M.get_acc ha hx) h
        by_cases hv0 : v = 0
        · subst hv0
          refine ⟨x.toNat - 128, by rw [hv]; simp, ?_, fun he => ?_⟩
          · rw [sizeN, if_pos (by omega)]; rw [sizeN, if_pos (by omega)] at hs; omega
          · rw [sizeN, if_pos (by omega)] at he hs; omega
        · have hsz : sizeN (x.toNat - 128 + v * 128) = 1 + sizeN v := by
            rw [sizeN, if_neg (by omega), show (x.toNat - 128 + v * 128) / 128 = v from by omega]
          refine ⟨x.toNat - 128 + v * 128, ?_, by rw [hsz]; omega, fun he => ?_⟩
          · rw [hv, Nat.pow_succ, Nat.add_mul, Nat.mul_assoc, Nat.mul_comm 128 (128 ^ i)]; omega
          · rw [hsz] at he
            have := hp (by omega)
            rw [putN_big (by omega), show (x.toNat - 128 + v * 128) / 128 = v from by omega, this, show (x.toNat - 128 + v * 128) % 128 + 128 = x.toNat from by omega, b8_self]
            have hk := (M.getF_facts r (i + 1) _ (by omega) (M.get_acc ha hx)).1 h
            obtain ⟨j, hj⟩ : ∃ j, (M.getF (i + 1) (acc + (x.toNat - 128) * 128 ^ i) r).2.1 - i = j + 1 := ⟨(M.getF (i + 1) (acc + (x.toNat - 128) * 128 ^ i) r).2.1 - i - 1, by omega⟩
            rw [hj, List.take_succ_cons, show (M.getF (i + 1) (acc + (x.toNat - 128) * 128 ^ i) r).2.1 - (i + 1) = j from by omega]
theorem put_get {b : List UInt8} (h : shortB b = true) : putN (M.get b).1 = b.take (M.get b).2.1 := by
  unfold shortB at h
  have h' := of_decide_eq_true h
  obtain ⟨v, hv, hs, hp⟩ := put_getF b 0 0 (by omega) (by simp) h'.1
  have e : (M.get b).1 = v := by rw [M.get, hv]; simp
  rw [e]
  rw [e] at h'
  have := hp (by rw [← M.get]; omega)
  simpa [M.get] using this
theorem sizeN_mono {a b : Nat} (h : a ≤ b) : sizeN a ≤ sizeN b := by
  have h0 := sizeN_pos a
  have h1 := sizeN_pos b
  have h2 := (sizeN_le (sizeN b - 1) b).1 (by omega)
  have := (sizeN_le (sizeN b - 1) a).2 (by omega)
  omega
end Go.Proofs.Ytejdlhjbakndaaa
set_option linter.unusedVariables false
namespace Go.Proofs.Ytejdlhjbakndaaa
open Go.RowKit
theorem short_put {n : Nat} (h : n ≤ 18446744073709551615) : shortB (putN n) = true := by
  have := get_put [] h
  rw [List.append_nil] at this
  unfold shortB
  rw [this, putN_size]; simp
end Go.Proofs.Ytejdlhjbakndaaa
set_option linter.unusedVariables false
namespace Go.Proofs.Ytejdlhjbakndaaa
open Go.RowKit
def flat (ns : List Nat) : List UInt8 := ns.flatMap putN
theorem flat_cons (n : Nat) (ns : List Nat) : flat (n :: ns) = putN n ++ flat ns := rfl
theorem flat_snoc (ns : List Nat) (n : Nat) : flat (ns ++ [n]) = flat ns ++ putN n := by simp [flat]
theorem allF_flat (ns : List Nat) : ∀ f acc p, (∀ n ∈ ns, n ≤ 18446744073709551615) → (flat ns).length ≤ f → M.allF f acc p (flat ns) = (acc ++ ns, 0, 0) := by
  induction ns with
  | nil => intro f acc p _ _; rw [show flat [] = [] from rfl, M.allF_end]; simp
  | cons n ns ih =>
    intro f acc p hb hf
    have hn := hb n (by simp)
    have hg := get_put (flat ns) hn
    have hp : 0 < (putN n).length := by rw [putN_size]; exact sizeN_pos n
    rw [flat_cons] at hf ⊢
    rw [M.allF_step (by rw [List.length_append]; omega) hf (by rw [hg]), hg]
    simp only [List.drop_left]
    rw [ih f _ _ (fun m hm => hb m (by simp [hm])) (by rw [List.length_append] at hf; omega)]
    simp
theorem all_flat {ns : List Nat} (hb : ∀ n ∈ ns, n ≤ 18446744073709551615) : M.all (flat ns) = (ns, 0, 0) := by
  rw [M.all, allF_flat ns _ _ _ hb (Nat.le_refl _)]; simp
theorem flat_length {ns : List Nat} (hb : ∀ n ∈ ns, n ≤ 18446744073709551615) : (flat ns).length ≤ 10 * ns.length := by
  induction ns with
  | nil => simp [flat]
  | cons n ns ih =>
    rw [flat_cons, List.length_append, List.length_cons]
    have := putN_length10 (hb n (by simp))
    have := ih fun m hm => hb m (by simp [hm])
    omega
theorem allF_length (f : Nat) : ∀ (acc : List Nat) (p : Nat) (b : List UInt8), (M.allF f acc p b).1.length ≤ acc.length + b.length := by
  induction f with
  | zero => intro acc p b; cases b <;> simp [M.allF]
  | succ f ih =>
    intro acc p b
    cases b with
    | nil => simp [M.allF]
    | cons x r =>
      rw [M.allF]
      split
      · simp
      · rename_i he
        have hk := (M.get_facts (x :: r)).1 (by omega)
        have := ih (acc ++ [(M.get (x :: r)).1]) (p + (M.get (x :: r)).2.1) ((x :: r).drop (M.get (x :: r)).2.1)
        rw [List.length_append, List.length_drop] at this
        simp at this ⊢
        simp at hk
        omega
theorem all_length (b : List UInt8) : (M.all b).1.length ≤ b.length := by have := allF_length b.length [] 0 b; simpa [M.all] using this
end Go.Proofs.Ytejdlhjbakndaaa
set_option linter.unusedVariables false
namespace Go.Proofs.Ytejdlhjbakndaaa
open Go.RowKit
theorem headL12 : headL 1 2 = [10] := by
  unfold headL
  rw [show mk 1 2 = (10, 0) from by decide]
  simp [putN_small (show 10 < 128 by omega)]; decide
theorem headL25 : headL 2 5 = [21] := by
  unfold headL
  rw [show mk 2 5 = (21, 0) from by decide]
  simp [putN_small (show 21 < 128 by omega)]; decide
theorem mk_eq (n x : Int) : mk n x = mk n x := rfl
end Go.Proofs.Ytejdlhjbakndaaa
set_option linter.unusedVariables false
namespace Go.Proofs.Ytejdlhjbakndaaa
open Go.RowKit
theorem mk_ok_inv {n x : Int} (h : (mk n x).2 = 0) : 1 ≤ n ∧ n ≤ 536870911 ∧ wireB x = true ∧ mk n x = (8 * n + x, 0) := by
  unfold mk at h ⊢
  split
  · rename_i h'; rw [if_pos h'] at h; simp at h
  · rename_i h'; rw [if_neg h'] at h
    split
    · rename_i h''; rw [if_pos h''] at h; simp at h
    · rename_i h''; exact ⟨by omega, by omega, by simpa using h'', rfl⟩
theorem spl_mk {n x : Int} (h : (mk n x).2 = 0) : spl (mk n x).1 = (n, x, 0) := by
  obtain ⟨h1, h2, hw, he⟩ := mk_ok_inv h
  have hl := wireB_lt hw
  rw [he]
  have e1 : (8 * n + x) / 8 = n := by omega
  have e2 : (8 * n + x) % 8 = x := by omega
  have := spl_ok (n := 8 * n + x) (by rw [e1]; exact h1) (by rw [e1]; exact h2) (by rw [e2]; exact hw)
  rw [this, e1, e2]
theorem spl_ok_inv {n : Int} (h : (spl n).2.2 = 0) : 1 ≤ n / 8 ∧ n / 8 ≤ 536870911 ∧ wireB (n % 8) = true ∧ spl n = (n / 8, n % 8, 0) := by
  unfold spl at h ⊢
  split
  · rename_i h'; rw [if_pos h'] at h; simp at h
  · rename_i h'; rw [if_neg h'] at h
    split
    · rename_i h''; rw [if_pos h''] at h; simp at h
    · rename_i h''; exact ⟨by omega, by omega, by simpa using h'', rfl⟩
theorem mk_spl {n : Int} (h : (spl n).2.2 = 0) : mk (spl n).1 (spl n).2.1 = (n, 0) := by
  obtain ⟨h1, h2, hw, he⟩ := spl_ok_inv h
  rw [he, mk_ok h1 h2 hw]
  congr 1; omega
theorem spl_range (n : Int) : 0 ≤ (spl n).2.1 ∧ (spl n).2.1 ≤ 255 := by
  unfold spl
  split
  · simp
  · split
    · simp
    · simp; omega
theorem get32_back (n : Nat) (h : n ≤ 4294967295) : (unfixN ((fixN 4 n).take 4) : Int) = n := by
  rw [List.take_of_length_le (by rw [length_fixN]; omega), unfix_fix 4 n (by omega)]
theorem get64_back (n : Nat) (h : n ≤ 18446744073709551615) : (unfixN ((fixN 8 n).take 8) : Int) = n := by
  rw [List.take_of_length_le (by rw [length_fixN]; omega), unfix_fix 8 n (by omega)]
end Go.Proofs.Ytejdlhjbakndaaa
set_option linter.unusedVariables false
namespace Go.Proofs.Ytejdlhjbakndaaa
open Go.RowKit
theorem own_drewN {w : World} {base e size n : Nat} {v : Value} {xs : List Value} (h : w.ownsRow base e size v n xs) (k : Nat) : (w.drewN k).ownsRow base e size v n xs := h
theorem Sl.of_own' {w : World} {base e : Nat} {A : Option Addr} {n m c : Nat} {xs : List Value} (h : w.ownsRow base e 1 (.slice A n c) m xs) : Sl w A c xs := by
  obtain ⟨A', c', hv, _, hs⟩ := Sl.of_own h
  injection hv with h1 h2 h3
  subst h1; subst h3; exact hs
theorem SlN.of_own {w : World} {base e size n : Nat} {v : Value} {xs : List Value} (hsz : 0 < size) (h : w.ownsRow base e size v n xs) : ∃ A c, v = .slice A n c ∧ SlN w A n c size xs := by
  rcases h.2 with ⟨rfl, rfl⟩ | ⟨g, cap, cur, rfl, hb, hg, hnc, hcm, hcs, htake⟩
  · have hx : xs = [] := List.eq_nil_of_length_eq_zero (by simpa using h.1)
    subst hx
    exact ⟨none, 0, rfl, ⟨by simp, by omega, by omega, fun _ => rfl, Rd.nil_ w _⟩⟩
  · refine ⟨_, cap, rfl, ⟨h.1, hnc, hcm, (fun h => by cases h), fun k u hk => ⟨g, 0, rfl, (Array.getElem?_eq_some_iff.1 hg).1, ?_⟩⟩⟩
    have := h.cells (g := g) rfl k u hk
    rwa [addr_add] at this
abbrev Hd : Type := Int × Nat
def hdv (h : Hd) : List Value := [.int .i64 h.1, .int .u8 (h.2 : Int)]
def okH (h : Hd) : Bool := decide ((mk h.1 (h.2 : Int)).2 = 0)
def flatH (l : List Hd) : List UInt8 := l.flatMap fun h => headL h.1 (h.2 : Int)
theorem flatH_snoc (l : List Hd) (h : Hd) : flatH (l ++ [h]) = flatH l ++ headL h.1 (h.2 : Int) := by simp [flatH]
theorem headL_length {h : Hd} (hx : h.2 ≤ 255) : (headL h.1 (h.2 : Int)).length ≤ 10 := by
  unfold headL; split
  · exact putN_length10 (by have := mk_facts h.1 (h.2 : Int) (by omega) (by omega); omega)
  · simp
theorem flatH_length {l : List Hd} (hx : ∀ h ∈ l, h.2 ≤ 255) : (flatH l).length ≤ 10 * l.length := by
  induction l with
  | nil => simp [flatH]
  | cons h l ih =>
    have h1 := headL_length (hx h (by simp))
    have h2 := ih fun g hg => hx g (by simp [hg])
    have e : flatH (h :: l) = headL h.1 (h.2 : Int) ++ flatH l := rfl
    rw [e, List.length_append, List.length_cons]; omega
theorem headL_pos {n x : Int} (h : (mk n x).2 = 0) : 0 < (headL n x).length := by unfold headL; rw [if_pos h, putN_size]; exact sizeN_pos _
theorem headL_nil {n x : Int} (h : (mk n x).2 ≠ 0) : headL n x = [] := by unfold headL; rw [if_neg h]
def tg (h : Hd) : Nat := (mk h.1 (h.2 : Int)).1.toNat
theorem flatH_flat (l : List Hd) : flatH l = flat ((l.filter okH).map tg) := by
  induction l with
  | nil => rfl
  | cons h l ih =>
    have e : flatH (h :: l) = headL h.1 (h.2 : Int) ++ flatH l := rfl
    rw [e, List.filter_cons]
    by_cases hk : okH h = true
    · rw [if_pos hk, List.map_cons, flat_cons, ← ih]
      congr 1
      unfold headL tg
      rw [if_pos (by simpa [okH] using hk)]
    · rw [if_neg hk, ← ih, headL_nil (by simpa [okH] using hk)]; rfl
theorem tg_le {h : Hd} (hx : h.2 ≤ 255) : tg h ≤ 18446744073709551615 := by unfold tg; have := mk_facts h.1 (h.2 : Int) (by omega) (by omega); omega
theorem spl_tg {h : Hd} (hx : h.2 ≤ 255) (hk : okH h = true) : spl (tg h : Int) = (h.1, (h.2 : Int), 0) := by
  have hm : (mk h.1 (h.2 : Int)).2 = 0 := by simpa [okH] using hk
  have hf := mk_facts h.1 (h.2 : Int) (by omega) (by omega)
  unfold tg
  rw [Int.toNat_of_nonneg hf.1]
  exact spl_mk hm
end Go.Proofs.Ytejdlhjbakndaaa
