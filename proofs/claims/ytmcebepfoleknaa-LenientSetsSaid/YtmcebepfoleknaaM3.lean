/- Opening the arguments of a statement: what came in, as lists. · What came in, whatever its type: cells that read as data are the cells of some value of a Lean type. · varint.Short, tag.Head, and what is awake in layers 1 and 2. · The walks of layer 1's statements. · The walks of VarintBack and VarintAll. · The walk of VarintBack. · The walk of VarintAll. · The walks of layer 2's statements. · The walks of TagBack and TagFixed. · The walk of WholeHeads. -/
import Derived.Test.YtmcebepfoleknaaM1
import Derived.ProofKit
import Derived.OpenShut
import Derived.ChangeOld
import Derived.Below
import Derived.Test.YtmcebepfoleknaaM2
import Derived.Deep.RegionWith
import Derived.Deep.RegionHeld3
import Derived.Deep.QuietTactic
import Derived.BigQuiet
set_option linter.unusedVariables false
namespace Go.Proofs.Ytmcebepfoleknaa
open Go.ChangeShapes Go.WideShapes Go.ChangeAt Go.RowKit

theorem wf_u64 {n : Int} (h : (Lit.int .u64 n).wf = true) : 0 ≤ n ∧ n ≤ 18446744073709551615 := by simpa [Lit.wf, IntKind.min, IntKind.max, IntKind.signed, IntKind.bits] using h
theorem wf_i64 {n : Int} (h : (Lit.int .i64 n).wf = true) : -9223372036854775808 ≤ n ∧ n ≤ 9223372036854775807 := by simpa [Lit.wf, IntKind.min, IntKind.max, IntKind.signed, IntKind.bits] using h
theorem wf_u8 {n : Int} (h : (Lit.int .u8 n).wf = true) : 0 ≤ n ∧ n ≤ 255 := by simpa [Lit.wf, IntKind.min, IntKind.max, IntKind.signed, IntKind.bits] using h

section
variable {H : Type} {enc : TypeId × Value → H} {P : Program} {W : World} {base : Nat} {spare : Nat → Bool} {held : Bool} {t e : TypeId} {A : Option Addr} {len cap : Nat} {d : DataW H} {p : List MemPlace}
end
end Go.Proofs.Ytmcebepfoleknaa
set_option linter.unusedVariables false
namespace Go.Proofs.Ytmcebepfoleknaa
open Go.ChangeShapes Go.WideShapes Go.ChangeAt Go.RowKit

/-- Cells of type t that read as data are enc a for some a that is ok. -/
def Opens (P : Program) (W : World) (t : TypeId) {α : Type} (enc : α → List Value) (ok : α → Prop) : Prop :=
  ∀ (H : Type) (en : TypeId × Value → H) (base : Nat) (spare : Nat → Bool) (held : Bool) (fuel : Nat) (cs : List Value) (x : DataW H × List MemPlace),
    DataW.trod en P W base spare held fuel t cs = some x → ∃ a : α, cs = enc a ∧ ok a
/-- A slice of n elements of so many cells each. -/
structure SlN (w : World) (A : Option Addr) (n c size : Nat) (flat : List Value) : Prop where
  len : flat.length = n * size
  cap : n ≤ c
  small : c ≤ 9223372036854775807
  nil0 : A = none → c = 0
  rd : Rd w A flat
theorem SlN.below {w w' : World} {A : Option Addr} {n c size : Nat} {xs : List Value} (h : SlN w A n c size xs) (hb : Below w.heap.size w w') : SlN w' A n c size xs := ⟨h.len, h.cap, h.small, h.nil0, h.rd.below hb⟩
/-- A slice value: where it lies, its capacity, what it holds. -/
structure SlV (α : Type) where
  A : Option Addr
  c : Nat
  xs : List α
section
variable {P : Program} {W : World} {t e : TypeId} {α β : Type}
theorem Opens.use {enc : α → List Value} {ok : α → Prop} (ho : Opens P W t enc ok) {H : Type} {en : TypeId × Value → H} {base : Nat} {spare : Nat → Bool} {held : Bool} {v : Value} {d : DataW H} {p : List MemPlace}
    (h : DataW.Trod en P W base spare held t v d p) : ∃ a, v.cells.toList = enc a ∧ ok a := let ⟨_, hf⟩ := h; ho _ _ _ _ _ _ _ _ hf
theorem opens_int {k : IntKind} (ht : P.underlying t = some (.int k)) : Opens P W t (fun n : Int => [.int k n]) (fun n => (Lit.int k n).wf = true) :=
  fun H en base spare held fuel cs x h => let ⟨n, hc, _, hw⟩ := DataW.trod_int ht h; ⟨n, hc, hw⟩
theorem opens_string (ht : P.underlying t = some .string) : Opens P W t (fun s : ByteArray => [.string s]) (fun s => s.size ≤ 9223372036854775807) :=
  fun H en base spare held fuel cs x h => let ⟨n, hc, _, hw⟩ := DataW.trod_string ht h; ⟨n, hc, hw⟩
theorem Opens.imp {enc : α → List Value} {ok ok' : α → Prop} (h : Opens P W t enc ok) (hi : ∀ a, ok a → ok' a) : Opens P W t enc ok' :=
  fun H en base spare held fuel cs x hx => let ⟨a, hc, ho⟩ := h H en base spare held fuel cs x hx; ⟨a, hc, hi a ho⟩
/-- Another Lean type for the same cells. -/
theorem Opens.map {enc : α → List Value} {ok : α → Prop} {enc' : β → List Value} {ok' : β → Prop} (h : Opens P W t enc ok) (f : α → β) (hi : ∀ a, ok a → enc a = enc' (f a) ∧ ok' (f a)) : Opens P W t enc' ok' :=
  fun H en base spare held fuel cs x hx => let ⟨a, hc, ho⟩ := h H en base spare held fuel cs x hx; ⟨f a, hc.trans (hi a ho).1, (hi a ho).2⟩
theorem flatMap_get {γ : Type} (enc : γ → List Value) (size : Nat) : ∀ (xs : List γ) (i j : Nat) (hi : i < xs.length), (∀ x ∈ xs, (enc x).length = size) → j < size →
    (xs.flatMap enc)[i * size + j]? = (enc xs[i])[j]?
  | [], i, _, hi, _, _ => by simp at hi
  | x :: xs, 0, j, _, h, hj => by
    rw [List.flatMap_cons, Nat.zero_mul, Nat.zero_add, List.getElem?_append_left (by rw [h x (by simp)]; exact hj)]; rfl
  | x :: xs, i + 1, j, hi, h, hj => by
    have hx := h x (by simp)
    rw [List.flatMap_cons, List.getElem?_append_right (by rw [hx, Nat.add_mul]; omega), hx,
      show (i + 1) * size + j - size = i * size + j from by rw [Nat.add_mul]; omega,
      flatMap_get enc size xs i j (by simpa using hi) (fun y hy => h y (by simp [hy])) hj]
    simp
theorem flatMap_length {γ : Type} (enc : γ → List Value) (size : Nat) : ∀ (xs : List γ), (∀ x ∈ xs, (enc x).length = size) → (xs.flatMap enc).length = xs.length * size
  | [], _ => by simp
  | x :: xs, h => by rw [List.flatMap_cons, List.length_append, h x (by simp), flatMap_length enc size xs (fun y hy => h y (by simp [hy])), List.length_cons, Nat.add_mul]; omega
theorem list_choose {γ : Type} {n : Nat} {p : Nat → γ → Prop} (h : ∀ i, i < n → ∃ a, p i a) : ∃ l : List γ, l.length = n ∧ ∀ i (hi : i < l.length), p i l[i] := by
  induction n with
  | zero => exact ⟨[], rfl, fun i hi => by simp at hi⟩
  | succ n ih =>
    obtain ⟨l, hl, hp⟩ := ih fun i hi => h i (by omega)
    obtain ⟨a, ha⟩ := h n (by omega)
    refine ⟨l ++ [a], by simp [hl], fun i hi => ?_⟩
    by_cases hin : i < l.length
    · rw [List.getElem_append_left hin]; exact hp i hin
    · obtain rfl : i = n := by simp [hl] at hi; omega
      rw [List.getElem_append_right (by omega)]; simpa [hl] using ha
theorem opens_slice {size : Nat} {enc : α → List Value} {ok : α → Prop} (ht : P.underlying t = some (.slice e)) (hc : P.cellsOf e = size) (hsz : 0 < size) (hlen : ∀ a, (enc a).length = size) (he : Opens P W e enc ok) :
    Opens P W t (fun s : SlV α => [.slice s.A s.xs.length s.c]) (fun s => (∀ x ∈ s.xs, ok x) ∧ SlN W s.A s.xs.length s.c size (s.xs.flatMap enc)) := by
  intro H en base spare held fuel cs x h
  rcases DataW.trod_slice ht h with ⟨rfl, _⟩ | ⟨a, len, cap, elems, rest, n, _, rfl, _, hb, hl, hm, hel, hat, _, _⟩
  · exact ⟨⟨none, 0, []⟩, rfl, by simp, ⟨by simp, by simp, by simp, fun _ => rfl, fun k u hk => by simp at hk⟩⟩
  · have each : ∀ i, i < len → ∃ v : α, ok v ∧ ∀ j, j < size → W.cell? (a.add (i * size + j)) = (enc v)[j]? := by
      intro i hi
      have hh := hat i hi
      rw [List.getElem?_eq_getElem (by omega), hc, Option.bind_eq_some_iff] at hh
      obtain ⟨cs', hcs, hy⟩ := hh
      obtain ⟨v, hv, hok⟩ := he _ _ _ _ _ _ _ _ hy
      obtain ⟨_, hcl, hcell⟩ := World.cells?_some hcs
      refine ⟨v, hok, fun j hj => ?_⟩
      have := hcell j hj
      rw [hv] at this
      rw [← this]
      congr 1
      unfold Addr.add
      by_cases h1 : i * size = 0 <;> by_cases h2 : j = 0 <;> simp [h1, h2, Nat.add_assoc] <;> omega
    obtain ⟨l, hll, hp⟩ := list_choose each
    have hle : ∀ x ∈ l, (enc x).length = size := fun x _ => hlen x
    refine ⟨⟨some a, cap, l⟩, by show _ = [Value.slice (some a) l.length cap]; rw [hll], ?_, ⟨flatMap_length enc size l hle, (by show l.length ≤ cap; rw [hll]; exact hl), hm, (fun h => by cases h), fun k u hk => ?_⟩⟩
    · intro x hx
      obtain ⟨i, hi, rfl⟩ := List.getElem_of_mem hx
      exact (hp i hi).1
    · have hk2 := (List.getElem?_eq_some_iff.1 hk).1
      rw [flatMap_length enc size l hle] at hk2
      have hi : k / size < l.length := Nat.div_lt_of_lt_mul (by rw [Nat.mul_comm]; exact hk2)
      have hj : k % size < size := Nat.mod_lt _ hsz
      have hkk : k / size * size + k % size = k := by rw [Nat.mul_comm]; exact Nat.div_add_mod k size
      have g := flatMap_get enc size l (k / size) (k % size) hi hle hj
      rw [hkk, hk] at g
      have hcell := (hp (k / size) hi).2 (k % size) hj
      rw [hkk, ← g] at hcell
      have hlt := World.block_lt_of_cell? W _ hcell
      obtain ⟨b, off, spot⟩ := a
      cases spot with
      | none => exact ⟨b, off, rfl, by rwa [addr_add] at hlt, by rwa [addr_add] at hcell⟩
      | some s =>
        have hl0 : 0 < l.length := Nat.lt_of_le_of_lt (Nat.zero_le _) hi
        have h0 := (hp 0 hl0).2 0 hsz
        have h1 : ∃ u, (enc (l[0]'hl0))[0]? = some u := ⟨_, List.getElem?_eq_getElem (by rw [hlen]; exact hsz)⟩
        obtain ⟨u, hu⟩ := h1
        rw [hu] at h0
        simp [World.cell?, Addr.add] at h0
        split at h0 <;> simp at h0
end
end Go.Proofs.Ytmcebepfoleknaa
set_option linter.unusedVariables false
namespace Go.Proofs.Ytmcebepfoleknaa
open Go.RowKit
end Go.Proofs.Ytmcebepfoleknaa
set_option linter.unusedVariables false
namespace Go.Proofs.Ytmcebepfoleknaa
open Go.RowKit
theorem putN_size (n : Nat) : (putN n).length = sizeN n := by
  induction n using Nat.strongRecOn with
  | _ n ih =>
    rw [sizeN]
    by_cases h : n < 128
    · rw [if_pos h, putN_small h]; rfl
    · rw [if_neg h, putN_big h, List.length_cons, ih (n / 128) (by omega)]; omega
end Go.Proofs.Ytmcebepfoleknaa
set_option linter.unusedVariables false
namespace Go.Proofs.Ytmcebepfoleknaa
open Go.RowKit
/-- What is short is written as it stood. -/
theorem put_getF : ∀ (b : List UInt8) (i acc : Nat), i ≤ 9 → acc < 128 ^ i → (M.getF i acc b).2.2 = 0 → 
    ∃ v, (M.getF i acc b).1 = acc + v * 128 ^ i ∧ i + sizeN v ≤ (M.getF i acc b).2.1 ∧ (i + sizeN v = (M.getF i acc b).2.1 → putN v = b.take ((M.getF i acc b).2.1 - i))
  | [], i, acc, _, _, h => by simp [M.getF] at h
  | x :: r, i, acc, hi, ha, h => by
    have hx := x.toNat_lt
    rw [M.getF] at h ⊢
    by_cases h9 : i = 9
    · subst h9
      rw [if_pos rfl] at h ⊢
      by_cases h1 : 128 ≤ x.toNat
      · rw [if_pos h1] at h; simp at h
      · by_cases h2 : 1 < x.toNat
        · rw [if_neg h1, if_pos h2] at h; simp at h
        · rw [if_neg h1, if_neg h2]
          refine ⟨x.toNat, rfl, by rw [sizeN, if_pos (by omega)]; simp, fun _ => ?_⟩
          rw [putN_small (by omega), b8_self]; rfl
    · rw [if_neg h9] at h ⊢
      by_cases h1 : x.toNat < 128
      · rw [if_pos h1]
        refine ⟨x.toNat, rfl, by rw [sizeN, if_pos h1]; simp, fun _ => ?_⟩
        rw [putN_small h1, b8_self]; simp
      · rw [if_neg h1] at h ⊢
        obtain ⟨v, hv, hs, hp⟩ := put_getF r (i + 1) _ (by omega) (M.get_acc ha hx) h
        by_cases hv0 : v = 0
        · subst hv0
          refine ⟨x.toNat - 128, by rw [hv]; simp, ?_, fun he => ?_⟩
          · rw [sizeN, if_pos (by omega)]; rw [sizeN, if_pos (by omega)] at hs; omega
          · rw [sizeN, if_pos (by omega)] at he hs; omega
        · have hsz : sizeN (x.toNat - 128 + v * 128) = 1 + sizeN v := by
            rw [sizeN, if_neg (by omega), show (x.toNat - 128 + v * 128) / 128 = v from by omega]
          refine ⟨x.toNat - 128 + v * 128, ?_, by rw [hsz]; omega, fun he => ?_⟩
          · rw [hv, Nat.pow_succ, Nat.add_mul, Nat.mul_assoc, Nat.mul_comm 128 (128 ^ i)]; omega
          · rw [hsz] at he
            have := hp (by omega)
            rw [putN_big (by omega), show (x.toNat - 128 + v * 128) / 128 = v from by omega, this, show (x.toNat - 128 + v * 128) % 128 + 128 = x.toNat from by omega, b8_self]
            have hk := (M.getF_facts r (i + 1) _ (by omega) (M.get_acc ha hx)).1 h
            obtain ⟨j, hj⟩ : ∃ j, (M.getF (i + 1) (acc + (x.toNat - 128) * 128 ^ i) r).2.1 - i = j + 1 := ⟨(M.getF (i + 1) (acc + (x.toNat - 128) * 128 ^ i) r).2.1 - i - 1, by omega⟩
            rw [hj, List.take_succ_cons, show (M.getF (i + 1) (acc + (x.toNat - 128) * 128 ^ i) r).2.1 - (i + 1) = j from by omega]
end Go.Proofs.Ytmcebepfoleknaa
set_option linter.unusedVariables false
namespace Go.Proofs.Ytmcebepfoleknaa
open Go.RowKit
end Go.Proofs.Ytmcebepfoleknaa
set_option linter.unusedVariables false
namespace Go.Proofs.Ytmcebepfoleknaa
open Go.RowKit
def flat (ns : List Nat) : List UInt8 := ns.flatMap putN
end Go.Proofs.Ytmcebepfoleknaa
set_option linter.unusedVariables false
namespace Go.Proofs.Ytmcebepfoleknaa
open Go.RowKit
end Go.Proofs.Ytmcebepfoleknaa
set_option linter.unusedVariables false
namespace Go.Proofs.Ytmcebepfoleknaa
open Go.RowKit
theorem spl_ok_inv {n : Int} (h : (spl n).2.2 = 0) : 1 ≤ n / 8 ∧ n / 8 ≤ 536870911 ∧ wireB (n % 8) = true ∧ spl n = (n / 8, n % 8, 0) := by
  unfold spl at h ⊢
  split
  · rename_i h'; rw [if_pos h'] at h; simp at h
  · rename_i h'; rw [if_neg h'] at h
    split
    · rename_i h''; rw [if_pos h''] at h; simp at h
    · rename_i h''; exact ⟨by omega, by omega, by simpa using h'', rfl⟩
theorem mk_spl {n : Int} (h : (spl n).2.2 = 0) : mk (spl n).1 (spl n).2.1 = (n, 0) := by
  obtain ⟨h1, h2, hw, he⟩ := spl_ok_inv h
  rw [he, mk_ok h1 h2 hw]
  congr 1; omega
end Go.Proofs.Ytmcebepfoleknaa
set_option linter.unusedVariables false
namespace Go.Proofs.Ytmcebepfoleknaa
open Go.RowKit
theorem SlN.of_own {w : World} {base e size n : Nat} {v : Value} {xs : List Value} (hsz : 0 < size) (h : w.ownsRow base e size v n xs) : ∃ A c, v = .slice A n c ∧ SlN w A n c size xs := by
  rcases h.2 with ⟨rfl, rfl⟩ | ⟨g, cap, cur, rfl, hb, hg, hnc, hcm, hcs, htake⟩
  · have hx : xs = [] := List.eq_nil_of_length_eq_zero (by simpa using h.1)
    subst hx
    exact ⟨none, 0, rfl, ⟨by simp, by omega, by omega, fun _ => rfl, Rd.nil_ w _⟩⟩
  · refine ⟨_, cap, rfl, ⟨h.1, hnc, hcm, (fun h => by cases h), fun k u hk => ⟨g, 0, rfl, (Array.getElem?_eq_some_iff.1 hg).1, ?_⟩⟩⟩
    have := h.cells (g := g) rfl k u hk
    rwa [addr_add] at this
end Go.Proofs.Ytmcebepfoleknaa
